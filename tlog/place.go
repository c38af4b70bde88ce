package tlog

import (
	"math/bits"

	"ledger/api"
)

// maxCount: the count of MaxRecords records.
const maxCount = 2*api.MaxRecords - 1

// Index: the place among the stored hashes of the n-th node (from 0 on) of a level (0: the leaves). ErrArg, if level is not 0 to MaxLevel, n below 0, or (n+1) times 2^level above MaxRecords.
func Index(level int, n int64) (int64, api.Errno) {
	if level < 0 || level > api.MaxLevel || n < 0 || n >= api.MaxRecords>>level {
		return 0, api.ErrArg
	}
	return placeOf(level, n), api.OK
}

// placeOf: a node is laid down with the last record below it, behind that one's leaf and the nodes between the two.
func placeOf(level int, n int64) int64 {
	last := (n+1)<<level - 1
	return countOf(last) + int64(level)
}

// SplitIndex: the level and number of a place: Index turned round. ErrArg, if there is none.
func SplitIndex(index int64) (int, int64, api.Errno) {
	if index < 0 || index >= maxCount {
		return 0, 0, api.ErrArg
	}
	record, level := recordsWithin(index)
	return int(level), (record+1)>>level - 1, api.OK
}

// Count: how many stored hashes a tree of n records has. ErrArg, if n is below 0 or above MaxRecords.
func Count(n int64) (int64, api.Errno) {
	if n < 0 || n > api.MaxRecords {
		return 0, api.ErrArg
	}
	return countOf(n), api.OK
}

func countOf(n int64) int64 { return 2*n - int64(bits.OnesCount64(uint64(n))) }

// Records: the n with Count(n) = count. ErrStored, if there is none.
func Records(count int64) (int64, api.Errno) {
	if count < 0 || count > maxCount {
		return 0, api.ErrStored
	}
	n, rest := recordsWithin(count)
	if rest != 0 {
		return 0, api.ErrStored
	}
	return n, api.OK
}

// recordsWithin: the most records whose count is not above count, and how much it is below. The whole subtrees that fit are taken, the greatest first.
func recordsWithin(count int64) (n, rest int64) {
	rest = count
	for level := api.MaxLevel; level >= 0; level-- {
		subtree := int64(1) << level
		if held := 2*subtree - 1; rest >= held {
			n += subtree
			rest -= held
		}
	}
	return n, rest
}

// Peaks: the places of the whole subtrees from left to right of which a tree of n records is made. ErrArg.
func Peaks(n int64) ([]int64, api.Errno) {
	if n < 0 || n > api.MaxRecords {
		return nil, api.ErrArg
	}
	var places []int64
	for level := api.MaxLevel; level >= 0; level-- {
		if through := n >> level; through&1 == 1 { // so many subtrees of this level reach to the end of this one
			places = append(places, placeOf(level, through-1))
		}
	}
	return places, api.OK
}
