package cycle

// What an event is.
const (
	write = iota
	read
)

// Kinds of edges.
const (
	rf      = iota // from a write to who reads from it
	fr             // from a read to a write that comes behind the one it reads from
	co             // from a write to one that comes behind it
	pod            // on in the thread, at another location
	pos            // on in the thread, at the same location
	mfenced        // on in the thread, behind a fence, at another location
)

// edge is what there is to say of an edge.
type edge struct {
	name     string
	kind     int
	from, to int
	out      bool // it leads to another thread
}

// edges is a row for each edge, by its number.
var edges = [...]edge{
	{"Rfe", rf, write, read, true},
	{"Rfi", rf, write, read, false},
	{"Fre", fr, read, write, true},
	{"Fri", fr, read, write, false},
	{"Coe", co, write, write, true},
	{"Coi", co, write, write, false},
	{"PodRR", pod, read, read, false},
	{"PodRW", pod, read, write, false},
	{"PodWR", pod, write, read, false},
	{"PodWW", pod, write, write, false},
	{"PosRR", pos, read, read, false},
	{"PosRW", pos, read, write, false},
	{"PosWR", pos, write, read, false},
	{"PosWW", pos, write, write, false},
	{"MFencedRR", mfenced, read, read, false},
	{"MFencedRW", mfenced, read, write, false},
	{"MFencedWR", mfenced, write, read, false},
	{"MFencedWW", mfenced, write, write, false},
}

// goesOut tells whether an edge leads to another thread.
func goesOut(n int) bool { return edges[n].out }

// leadsAway tells whether an edge leads to another location.
func leadsAway(n int) bool { return edges[n].kind == pod || edges[n].kind == mfenced }

// numberOf is the number of an edge; false: there is no such edge.
func numberOf(name string) (int, bool) {
	for n, e := range edges {
		if e.name == name {
			return n, true
		}
	}
	return 0, false
}

// numbersOf is the numbers of edges, and -1; or none, and the place of the first name that is no edge's.
func numbersOf(names []string) ([]int, int) {
	var l []int
	for i, s := range names {
		n, ok := numberOf(s)
		if !ok {
			return nil, i
		}
		l = append(l, n)
	}
	return l, -1
}

func namesOf(l []int) []string {
	names := make([]string, len(l))
	for i, n := range l {
		names[i] = edges[n].name
	}
	return names
}
