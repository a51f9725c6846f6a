package wal

import (
	"errors"

	"teasel/api"
)

// format leaves a log that was there ahead of it whole till its own stands: a new log is one sector, which is written or not.
func format(a area) (*Wal, error) {
	l, err := a.read()
	if err != nil {
		return nil, err
	}
	w := &Wal{area: a, state: a.blank(), last: newest(l)}
	if err = w.renew(w.state); err == nil {
		err = w.sync()
	}
	if err != nil {
		return nil, err
	}
	return w, nil
}

// open writes nothing. The edition that it finds is shut: behind its end there may be sheets that the power left.
func open(a area) (*Wal, error) {
	l, err := a.read()
	if err != nil {
		return nil, err
	}
	w := &Wal{area: a, last: newest(l)}
	for half := range halves {
		sheets := a.sheetsOf(l, half)
		number := sheets[0].edition
		if number < w.number {
			continue
		}
		if s, err := a.replay(a.text(sheets)); err == nil {
			w.state = s
			w.edition = edition{half: half, number: number, shut: true, safe: true}
		}
	}
	if w.number == 0 {
		return nil, api.ErrLost
	}
	return w, nil
}

// change has the next state told by a record of its own, where there is room for that; else by a new edition.
func (w *Wal) change(next state, record []byte) error {
	err := w.edition.add(w.area, record)
	if errors.Is(err, api.ErrFull) {
		err = w.renew(next)
	}
	if err == nil {
		w.state = next
	}
	return err
}

// renew begins an edition. It takes the half in which there is none that is known to last: of the two halves one always holds all that must.
func (w *Wal) renew(s state) error {
	half := w.edition.half
	if w.edition.safe {
		half = 1 - half
	}
	w.last++ // sheets that are left of an edition that failed must not be taken for this one's
	x := edition{half: half, number: w.last}
	if err := x.add(w.area, w.area.recordOfAll(s)); err != nil {
		return err
	}
	w.edition = x
	return nil
}

// sync writes all of it anew where what was written is not there: the power may have gone, and come again.
func (w *Wal) sync() error {
	if w.d.Off() {
		return api.ErrDown
	}
	if !w.edition.stands(w.area) {
		if err := w.renew(w.state); err != nil {
			return err
		}
	}
	if err := fault(w.d.Sync()); err != nil {
		return err
	}
	w.edition.settle(w.area)
	return nil
}
