package hist

import (
	"cmp"
	"math"
	"slices"
	"strings"

	"weir/api"
	"weir/cond"
	"weir/lexis"
	"weir/state"
)

// maxThread is the greatest thread that a condition can ask for.
const maxThread = 9999

// right tells whether a histogram is one that a log can say.
func right(h api.Hist) bool {
	return lexis.Name(h.Name) &&
		api.Exists <= h.Quant && h.Quant <= api.Forall &&
		rightRefs(h.Refs) &&
		rightCounts(h.Rows) &&
		rightFinals(h.Rows, len(h.Refs)) &&
		cond.Check(h.Cond) == api.OK &&
		rightQuestion(h)
}

func rightRefs(l []api.Ref) bool {
	if len(l) > api.MaxFinal {
		return false
	}
	for i, r := range l {
		if r.Thread < -1 || r.Thread > maxThread || !lexis.Name(r.Name) {
			return false
		}
		if i > 0 && compareRefs(l[i-1], r) >= 0 {
			return false
		}
	}
	return true
}

// compareRefs puts locations last, though their Thread is the least.
func compareRefs(a, b api.Ref) int {
	if (a.Thread == -1) != (b.Thread == -1) {
		return -cmp.Compare(a.Thread, b.Thread)
	}
	return cmp.Or(cmp.Compare(a.Thread, b.Thread), strings.Compare(a.Name, b.Name))
}

// rightCounts tells whether all counts can be added up. What is left of the greatest sum is reckoned, as the sum itself may wrap round.
func rightCounts(l []api.Row) bool {
	left := int64(math.MaxInt64)
	for _, r := range l {
		if r.Count < 1 || r.Count > left {
			return false
		}
		left -= r.Count
	}
	return true
}

// rightFinals tells whether the rows' final states are a set, each of so many values.
func rightFinals(l []api.Row, values int) bool {
	for i, r := range l {
		if r.Final.N != values || state.Check(r.Final) != api.OK {
			return false
		}
		if i > 0 && state.Compare(l[i-1].Final, r.Final) >= 0 {
			return false
		}
	}
	return true
}

// rightQuestion tells whether each row has a value for all that the condition asks for. Where there is no row, a log does not say what was looked at.
func rightQuestion(h api.Hist) bool {
	if len(h.Rows) == 0 {
		return len(h.Refs) == 0
	}
	asked, _ := cond.Refs(h.Cond)
	return !slices.ContainsFunc(asked, func(r api.Ref) bool { return !slices.Contains(h.Refs, r) })
}
