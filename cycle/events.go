package cycle

// registers is the names of registers, in the order in which a thread's reads have them: a thread has fewer reads than a cycle edges.
var registers = [most]string{
	"EAX", "EBX", "ECX", "EDX", "ESI", "EDI", "EBP", "ESP",
	"R8", "R9", "R10", "R11", "R12", "R13", "R14", "R15",
}

// event is where an edge begins.
type event struct {
	kind        int
	thread, loc int
	reg         string // of a read
	value       int64  // of a write; of a read that is asked for what it must read
	asked       bool
	fenced      bool // a fence stands behind it
}

// eventsOf is the events of a cycle in its canonical form.
func eventsOf(l []int) []event {
	all := placed(l)
	setWrites(l, all)
	setReads(l, all)
	return all
}

// placed is the events without values.
func placed(l []int) []event {
	all := make([]event, len(l))
	thread, loc, reads := 0, 0, 0
	for i, n := range l {
		all[i] = event{kind: edges[n].from, thread: thread, loc: loc, fenced: edges[n].kind == mfenced}
		if all[i].kind == read {
			all[i].reg = registers[reads]
			reads++
		}
		if goesOut(n) {
			thread++
			reads = 0
		}
		if leadsAway(n) {
			loc = (loc + 1) % count(l, leadsAway)
		}
	}
	return all
}

// setWrites gives writes their values. It sets out behind the last edge that leads away: from there on the events of each location stand in one row, those of the location 0 too.
func setWrites(l []int, all []event) {
	start := 0
	for i, n := range l {
		if leadsAway(n) {
			start = behind(l, i)
		}
	}
	newest := make([]int64, len(l))
	for i := range l {
		x := &all[(start+i)%len(l)]
		if x.kind == write {
			newest[x.loc]++
			x.value = newest[x.loc]
		}
	}
}

// setReads tells which reads are asked for, and by which values.
func setReads(l []int, all []event) {
	for i, n := range l {
		switch x := &all[i]; {
		case edges[l[ahead(l, i)]].kind == rf:
			x.value, x.asked = all[ahead(l, i)].value, true
		case edges[n].kind == fr:
			x.value, x.asked = all[behind(l, i)].value-1, true
		}
	}
}
