package proof

import (
	"ledger/api"
	"ledger/tlog"
)

// maxStored: how many stored hashes the greatest tree has that is held in memory.
const maxStored = 131071

// Record: RFC 6962's path for record i in the tree of the first n of these stored hashes. ErrLong, ErrStored, ErrArg.
func Record(k int, stored []api.Hash, n, i int64) ([]api.Hash, api.Errno) {
	return hashesTo(k, stored, n, recordGoal(i))
}

// Tree: RFC 6962's consistency proof from m to n. ErrLong, ErrStored, ErrArg.
func Tree(k int, stored []api.Hash, n, m int64) ([]api.Hash, api.Errno) {
	return hashesTo(k, stored, n, treeGoal(m))
}

func hashesTo(k int, stored []api.Hash, n int64, g goal) ([]api.Hash, api.Errno) {
	size, e := recordsOf(stored)
	if e != api.OK {
		return nil, e
	}
	if n > size || !g.within(n) {
		return nil, api.ErrArg
	}
	return walk(n, g, rootsOf(k, stored)), api.OK
}

// recordsOf: how many records these hashes are of.
func recordsOf(stored []api.Hash) (int64, api.Errno) {
	if len(stored) > maxStored {
		return 0, api.ErrLong
	}
	return tlog.Records(int64(len(stored)))
}

// rootsOf: what tells the root of the tree over a span of these records.
func rootsOf(k int, stored []api.Hash) func(span) api.Hash {
	return func(s span) api.Hash {
		var peaks []api.Hash
		for _, place := range s.peaks() {
			peaks = append(peaks, stored[place])
		}
		return tlog.Fold(k, peaks)
	}
}
