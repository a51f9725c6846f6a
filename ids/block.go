package ids

import "teasel/api"

// Within these bounds no block ends beyond 1 << 61, so that no product here wraps.
const (
	maxSize  = 1 << 20
	maxRange = 1 << 40
)

func Block(rangeID, size int) (first, past int, e api.Errno) {
	if !isRange(rangeID) || !isSize(size) {
		return 0, 0, api.ErrArg
	}
	first = rangeID * size
	return first, first + size, api.OK
}

func Owner(id, size int) (rangeID int, e api.Errno) {
	if id < 0 || !isSize(size) || !isRange(id/size) {
		return 0, api.ErrArg
	}
	return id / size, api.OK
}

func isRange(n int) bool { return 0 <= n && n <= maxRange }

func isSize(n int) bool { return 1 <= n && n <= maxSize }
