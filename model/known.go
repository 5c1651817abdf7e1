package model

import "weir/api"

const scText = `SC
acyclic po & loc | rf | co | fr as uniproc
empty rmw & (fr ; co) as atomic
acyclic po | rf | co | fr as sc
`

// written is the text of the model with a number.
func written(kind int) (string, api.Errno) {
	switch kind {
	case api.MSC:
		return scText, api.OK
	case api.MTSO:
		return buffered("TSO", `po & (M * M \ W * R)`, "tso"), api.OK
	case api.MPSO:
		return buffered("PSO", "po & R * M", "pso"), api.OK
	}
	return "", api.ErrRange
}

// buffered is the text of a model in which writes may wait: ppo is what it keeps of the program's order without fences and locks, last the name of its last check.
func buffered(name, ppo, last string) string {
	return name + `
let com = rf | co | fr
acyclic po & loc | com as uniproc
empty rmw & (fr ; co) as atomic
let ppo = ` + ppo + `
let fence = po ; [F] ; po
let implied = po & M * M & (L * _ | _ * L)
acyclic ppo | fence | implied | rfe | co | fr as ` + last + "\n"
}
