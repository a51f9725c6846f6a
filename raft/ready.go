package raft

import "teasel/wal"

// desk is what was handed out, and what waits for it.
type desk struct {
	told     int      // the last entry that was told as applied, or that a snapshot stands for
	from     int      // the first number at which what is kept is not the log
	kept     int      // the last number of what is kept
	hard     wal.Hard // as it was handed out
	fresh    bool     // the snapshot was not handed out yet
	messages []Message
}

func (r *Raft) Wants() bool {
	if r.hardNow() != r.hard || r.wantsKeep() || r.fresh || r.told < r.commit {
		return true
	}
	if len(r.messages) > 0 || r.ballot.asks {
		return true
	}
	for k := range r.peers {
		if r.wantsSend(k) {
			return true
		}
	}
	return false
}

func (r *Raft) Ready() Ready {
	r.sendAsks()
	r.sendDue()
	x := Ready{Hard: r.hardNow(), Messages: r.messages}
	r.hard, r.messages = x.Hard, nil
	if r.fresh {
		x.Snap, r.fresh = copyOf(r.snap), false
	}
	if r.wantsKeep() {
		last := r.Last()
		x.From, x.Entries = r.from, r.log.Get(r.from, last+1)
		r.from, r.kept = last+1, last
	}
	if r.told < r.commit {
		x.First, x.Applied = r.told+1, r.applied()
		r.told = r.commit
	}
	return x
}

func (r *Raft) hardNow() wal.Hard {
	return wal.Hard{Term: r.term, Vote: r.vote, Commit: r.commit}
}

// wantsKeep tells whether entries must be kept, or be no more.
func (r *Raft) wantsKeep() bool { return r.from <= max(r.Last(), r.kept) }

// keepsSnap notes what is kept behind a snapshot. If the entry there was not the snapshot's own in what is kept, nothing is; where that is not known, all behind it is handed out anew.
func (d *desk) keepsSnap(index int, stays bool) {
	switch {
	case stays:
		d.from = max(d.from, index+1)
		return
	case d.from > index:
		d.kept = index
	}
	d.from = index + 1
}

// applied tells what is committed and was not told.
func (r *Raft) applied() []wal.Entry {
	l := r.log.Get(r.told+1, r.commit+1)
	for i := range l {
		l[i].Data = plain(l[i].Data)
	}
	return l
}
