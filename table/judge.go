package table

import "sparrow/api"

// answer is what comes of a message: its error, or else what is to be done then, and whether it is a foul.
type answer struct {
	e    api.Errno
	next step
	foul bool
}

func refused(e api.Errno) answer { return answer{e: e} }

// fouled is the answer to a message that is a foul.
func (m *machine) fouled() answer { return answer{next: m.foul, foul: true} }

// judge finds the answer to a message. It changes nothing of the deal, but it keeps the message for what is to be done.
func (m *machine) judge(x api.Message) answer {
	if e := m.outOfPlace(x); e != api.OK {
		return refused(e)
	}
	kinds := map[int]func(*machine, api.Message) answer{
		api.SayDiscard: (*machine).judgeDiscard,
		api.SayRiichi:  (*machine).judgeRiichi,
		api.SayClosed:  (*machine).judgeClosed,
		api.SayAdd:     (*machine).judgeAdd,
		api.SaySelf:    (*machine).judgeSelf,
		api.SayNines:   (*machine).judgeNines,
		api.SayPass:    (*machine).judgePass,
		api.SayChow:    (*machine).judgeChow,
		api.SayPung:    (*machine).judgePung,
		api.SayKong:    (*machine).judgeKong,
		api.SayWin:     (*machine).judgeWin,
		api.SayClock:   (*machine).judgeClock,
	}
	m.doing = x
	return kinds[x.Kind](m, x)
}

// phaseOf returns the phase in which a kind of message is said.
func phaseOf(kind int) int {
	if kind <= api.SayNines {
		return api.PhaseTurn
	}
	return api.PhaseClaims
}

// outOfPlace returns the first error of a message that does not depend on what its kind asks for.
func (m *machine) outOfPlace(x api.Message) api.Errno {
	switch {
	case m.Phase == api.PhaseOver:
		return api.ErrState
	case !between(x.Kind, api.SayDiscard, api.SayClock):
		return api.ErrKind
	case !between(x.Tick, 0, api.MaxTick) || x.Kind != api.SayClock && !isSeat(m.house, x.Who):
		return api.ErrRange
	case x.Tick < m.Tick:
		return api.ErrOrder
	case m.Phase != phaseOf(x.Kind):
		return api.ErrState
	case m.Phase == api.PhaseTurn && x.Who != m.Turn:
		return api.ErrTurn
	case m.Phase == api.PhaseClaims && x.Kind != api.SayClock:
		return m.noClaim(x)
	}
	return api.OK
}

// noClaim returns the first error by which a seat can claim nothing, nor pass.
func (m *machine) noClaim(x api.Message) api.Errno {
	switch {
	case x.Who == m.Turn:
		return api.ErrTurn
	case x.Tick > m.Since+m.house.Play.Time:
		return api.ErrLate
	case m.Players[x.Who].Dead:
		return api.ErrState
	case m.spoke(x.Who):
		return api.ErrExists
	}
	return api.OK
}
