package buffers

import (
	"slices"

	"weir/api"
)

// small is a small step: what it waits for, and what it does beside going on.
type small struct {
	ready func(turn) bool
	do    func(turn)
}

// table is, by each instruction's kind, the small steps of which it is made, in their order.
func table() [][]small {
	always := func(turn) bool { return true }
	nothing := func(turn) {}
	locked := func(change small) []small {
		return []small{{turn.unlocked, turn.lock}, change, {turn.drained, turn.unlock}}
	}
	return [][]small{
		api.OMovImm:   {{always, turn.moveImm}},
		api.OMovReg:   {{always, turn.moveReg}},
		api.OLoad:     {{turn.unblocked, turn.load}},
		api.OStoreImm: {{turn.roomy, turn.storeImm}},
		api.OStoreReg: {{turn.roomy, turn.storeReg}},
		api.OFence:    {{turn.drained, nothing}},
		api.OXchg:     locked(small{turn.roomy, turn.exchange}),
		api.OCmpxchg:  locked(small{turn.roomyIfEqual, turn.compareExchange}),
		api.OXadd:     locked(small{turn.roomy, turn.exchangeAdd}),
	}
}

// turn is a thread of a state, at its next instruction.
type turn struct {
	order  Order
	state  *api.State
	thread int
	op     api.Op
}

func (t turn) phase() int { return t.state.Phase[t.thread] }

// reg is what a register of the thread has.
func (t turn) reg(number int) int64 { return t.state.Regs[t.thread][number] }

// set gives the instruction's register a value.
func (t turn) set(v int64) { t.state.Regs[t.thread][t.op.Reg] = v }

// seen is what the thread sees at the instruction's location.
func (t turn) seen() int64 { return seenBy(*t.state, t.thread, t.op.Loc) }

// seenBy is what a thread sees at a location: its own newest write there that waits, or else what memory has.
func seenBy(s api.State, thread, loc int) int64 {
	v := s.Mem[loc]
	for _, w := range s.Buf[thread] {
		if w.Loc == loc {
			v = w.Value
		}
	}
	return v
}

func (t turn) unlocked() bool { return t.state.Lock == -1 }

// unblocked tells whether no other thread holds the lock.
func (t turn) unblocked() bool { return t.unlocked() || t.state.Lock == t.thread }

// drained tells whether no write of the thread waits.
func (t turn) drained() bool { return len(t.state.Buf[t.thread]) == 0 }

// roomy tells whether one more write of the thread may wait.
func (t turn) roomy() bool { return len(t.state.Buf[t.thread]) < api.MaxEvents }

// equal tells whether the thread sees at the location what its register has.
func (t turn) equal() bool { return t.seen() == t.reg(t.op.Reg) }

// roomyIfEqual asks for room only where a compare-and-exchange writes.
func (t turn) roomyIfEqual() bool { return t.roomy() || !t.equal() }

func (t turn) lock() { t.state.Lock = t.thread }

func (t turn) unlock() { t.state.Lock = -1 }

func (t turn) moveImm() { t.set(t.op.Imm) }

func (t turn) moveReg() { t.set(t.reg(t.op.Src)) }

func (t turn) load() { t.set(t.seen()) }

func (t turn) storeImm() { t.write(t.op.Imm) }

func (t turn) storeReg() { t.write(t.reg(t.op.Src)) }

func (t turn) exchange() { t.replace(t.reg(t.op.Reg)) }

func (t turn) exchangeAdd() { t.replace(t.seen() + t.reg(t.op.Reg)) }

func (t turn) compareExchange() {
	if t.equal() {
		t.write(t.reg(t.op.Src))
	} else {
		t.load()
	}
}

// replace loads what is seen at the location, and writes a value there.
func (t turn) replace(v int64) {
	t.load()
	t.write(v)
}

// write lets a write to the instruction's location wait.
func (t turn) write(v int64) {
	l := t.state.Buf[t.thread]
	t.state.Buf[t.thread] = slices.Insert(l, t.order.Place(l, t.op.Loc), api.Write{Loc: t.op.Loc, Value: v})
}

// first is which of the thread's writes a flush takes; -1: none.
func (t turn) first(loc int) int { return t.order.First(t.state.Buf[t.thread], loc) }

// flush lets the write that it takes reach memory.
func (t turn) flush(loc int) {
	l, at := t.state.Buf[t.thread], t.first(loc)
	t.state.Mem[l[at].Loc] = l[at].Value
	t.state.Buf[t.thread] = slices.Delete(l, at, at+1)
}

// advance goes on to the instruction's next small step of so many, or behind the last one to the next instruction.
func (t turn) advance(steps int) {
	t.state.Phase[t.thread]++
	if t.phase() == steps {
		t.state.Phase[t.thread] = 0
		t.state.PC[t.thread]++
	}
}
