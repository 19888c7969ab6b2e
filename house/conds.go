package house

import (
	"slices"

	"sparrow/api"
)

// What the N of a node may mean, where it is no plain number.
const (
	wonInMiddle = 1
	wonAtEdge   = 2
	wonAtEnd    = 3

	ofSeat  = 1
	ofRound = 2

	allTwins    = 1
	closedTwins = 2
)

// What the Open of a node may mean, if it is not 0.
const (
	onlyOpen   = 1
	onlyClosed = 2
)

// truth and number are conditions that are put together: they tell what they are for a winning hand.
type (
	truth  func(*scene) bool
	number func(*scene) int
)

// builder puts the nodes of a valid condition together, from the front on.
type builder struct{ left []api.Node }

func (b *builder) next() api.Node {
	n := b.left[0]
	b.left = b.left[1:]
	return n
}

// whole returns any valid condition as a number: a truth is 1 if it holds.
func whole(l []api.Node) number {
	b := &builder{left: l}
	if len(l) == 0 {
		return func(*scene) int { return 1 }
	}
	if isNumber(l[0].Op) {
		return b.number()
	}
	holds := b.truth()
	return func(x *scene) int {
		if holds(x) {
			return 1
		}
		return 0
	}
}

func (b *builder) truth() truth {
	n := b.next()
	switch n.Op {
	case api.OpNot:
		part := b.truth()
		return func(x *scene) bool { return !part(x) }
	case api.OpAnd:
		one, other := b.truth(), b.truth()
		return func(x *scene) bool { return one(x) && other(x) }
	case api.OpOr:
		one, other := b.truth(), b.truth()
		return func(x *scene) bool { return one(x) || other(x) }
	case api.OpLeast:
		part := b.number()
		return func(x *scene) bool { return part(x) >= n.N }
	case api.OpForm:
		return func(x *scene) bool { return x.house.Forms[x.reading.Form].What == n.N }
	case api.OpFlag:
		return func(x *scene) bool { return slices.Contains(x.win.Flags, n.N) }
	case api.OpSelf:
		return func(x *scene) bool { return x.win.Self }
	case api.OpClosed:
		return func(x *scene) bool { return x.count(func(g api.Group) bool { return g.Open }) == 0 }
	case api.OpLast:
		return func(x *scene) bool { return among(x.last(), n.What) && x.wonAt(n.N) }
	}
	return func(*scene) bool { return true }
}

func (b *builder) number() number {
	n := b.next()
	switch n.Op {
	case api.OpSum:
		one, other := b.number(), b.number()
		return limited(func(x *scene) int { return one(x) + other(x) })
	case api.OpTimes:
		one, other := b.number(), b.number()
		return limited(func(x *scene) int { return one(x) * other(x) })
	case api.OpIf:
		holds, one, other := b.truth(), b.number(), b.number()
		return func(x *scene) int {
			if holds(x) {
				return one(x)
			}
			return other(x)
		}
	case api.OpUp:
		part := b.number()
		return limited(func(x *scene) int { return (part(x) + n.N - 1) / n.N * n.N })
	}
	return leaf(n)
}

func limited(n number) number {
	return func(x *scene) int { return min(n(x), api.MaxNumber) }
}

// leaf is a number without parts.
func leaf(n api.Node) number {
	switch n.Op {
	case api.OpGroups:
		return func(x *scene) int { return x.groups(n) }
	case api.OpTiles:
		return func(x *scene) int { return x.tilesOf(n.Kinds) }
	case api.OpBonus:
		return func(x *scene) int { return x.win.Bonus }
	case api.OpWind:
		return func(x *scene) int { return x.winds(n) }
	case api.OpTwins:
		return func(x *scene) int { return x.twins(n.N == closedTwins) }
	case api.OpRow:
		return func(x *scene) int { return x.board(n.What).rows(n.N, n.M) }
	case api.OpColours:
		return func(x *scene) int { return x.board(n.What).colours(n.N, n.M) }
	case api.OpSuits:
		return (*scene).suits
	case api.OpWaits:
		return (*scene).waits
	}
	return func(*scene) int { return n.N }
}

// among reports whether a group is in a What of a node: a sum with one bit for each What of groups.
func among(g api.Group, what int) bool { return what&(1<<(g.What-1)) != 0 }

func inKinds(kinds []int, kind int) bool { return len(kinds) == 0 || slices.Contains(kinds, kind) }
