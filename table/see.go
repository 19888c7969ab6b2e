package table

import (
	"iter"
	"slices"

	"sparrow/api"
)

// See returns what a player sees of a table.
func See(t Table, player int) api.View {
	if t.state == nil || !isSeat(t.state.house, player) {
		return api.View{}
	}
	s, p := t.state, t.state.Players[player]
	v := api.View{
		You: player, Dealer: s.Dealer, Round: s.Round,
		Live: len(s.Live), Indicators: s.indicators(false), Hand: copied(p.Hand), Sides: s.sides(),
		Phase: s.Phase, Turn: s.Turn, Tile: s.Tile, Drawn: none, How: s.How, Since: s.Since, Tick: s.Tick,
		Said: s.spoke(player), Missed: p.Missed, Result: copyResult(s.Result),
	}
	if player == s.Turn {
		v.Drawn, v.Banned = s.Drawn, copied(s.Banned)
	}
	return v
}

// sides returns what everybody sees of the seats.
func (s state) sides() []api.Side {
	var sides []api.Side
	for _, p := range s.Players {
		p = copyPlayer(p)
		sides = append(sides, api.Side{Tiles: len(p.Hand), Melds: p.Melds, Flowers: p.Flowers, River: p.River, Riichi: p.Riichi, Dead: p.Dead})
	}
	return sides
}

// Options returns the messages that a player can say without an error or a foul.
func Options(t Table, player int) []api.Message {
	if t.state == nil || !isSeat(t.state.house, player) {
		return nil
	}
	m := t.machine()
	var options []api.Message
	for x := range m.options(player) {
		options = append(options, x)
	}
	return options
}

// options hands out the messages that are neither refused nor fouls.
func (m *machine) options(player int) iter.Seq[api.Message] {
	return func(yield func(api.Message) bool) {
		for x := range m.thinkable(player) {
			if a := m.judge(x); a.e == api.OK && !a.foul && !yield(x) {
				return
			}
		}
	}
}

// thinkable hands out each message of a player that might be an option, by Kind, then by Tile, then by Tiles.
func (m *machine) thinkable(player int) iter.Seq[api.Message] {
	return func(yield func(api.Message) bool) {
		for kind := api.SayDiscard; kind <= api.SayWin; kind++ {
			for x := range m.about(kind, m.Players[player].Hand) {
				x.Kind, x.Who, x.Tick = kind, player, m.Tick
				if !yield(x) {
					return
				}
			}
		}
	}
}

// about hands out the tiles of a hand with which a kind of message might be said.
func (m *machine) about(kind int, hand []int) iter.Seq[api.Message] {
	switch kind {
	case api.SayDiscard, api.SayRiichi, api.SayAdd:
		return tiles(hand)
	case api.SayClosed:
		same := func(a, b int) bool { return m.kind(a) == m.kind(b) }
		return tiles(slices.CompactFunc(slices.Clone(hand), same))
	case api.SayChow:
		return choices(hand, 2)
	case api.SayPung:
		return choices(m.ofKind(hand, m.kind(m.Tile)), 2)
	case api.SayKong:
		return choices(m.ofKind(hand, m.kind(m.Tile)), 3)
	}
	return tiles([]int{none})
}

// tiles hands out a message about each tile of a list.
func tiles(l []int) iter.Seq[api.Message] {
	return func(yield func(api.Message) bool) {
		for _, t := range l {
			if !yield(api.Message{Tile: t}) {
				return
			}
		}
	}
}

// choices hands out a message with each choice of some tiles of an ascending list, in lexicographic order.
func choices(l []int, many int) iter.Seq[api.Message] {
	return func(yield func(api.Message) bool) {
		var choose func(chosen, rest []int) bool
		choose = func(chosen, rest []int) bool {
			if len(chosen) == many {
				return yield(api.Message{Tile: none, Tiles: slices.Clone(chosen)})
			}
			for i, t := range rest {
				if !choose(append(chosen, t), rest[i+1:]) {
					return false
				}
			}
			return true
		}
		choose(nil, l)
	}
}
