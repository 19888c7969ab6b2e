package house_test

import (
	"math"
	"slices"
	"testing"

	"sparrow/api"
	"sparrow/house"
)

// rule is a row of the chapter's table: the parts (t a truth, n a number), and the ranges of What, N, M and Open; nil if they are not used.
type rule struct {
	parts            string
	what, n, m, open []int
	all, kinds       bool
}

func rules() map[int]rule {
	what := []int{1, 31}
	return map[int]rule{
		1: {}, 2: {parts: "t"}, 3: {parts: "tt"}, 4: {parts: "tt"}, 5: {parts: "n", n: []int{0, 1000000}}, 6: {n: []int{1, 6}}, 7: {n: []int{1, 7}}, 8: {}, 9: {}, 10: {what: what, n: []int{0, 3}},
		11: {n: []int{0, 1000000}}, 12: {parts: "nn"}, 13: {parts: "nn"}, 14: {parts: "tnn"}, 15: {parts: "n", n: []int{1, 1000}}, 16: {what: what, open: []int{0, 2}, all: true, kinds: true}, 17: {kinds: true}, 18: {}, 19: {what: what, n: []int{1, 2}}, 20: {n: []int{1, 2}},
		21: {what: what, n: []int{2, 4}, m: []int{1, 3}}, 22: {what: what, n: []int{2, 3}, m: []int{0, 2}}, 23: {}, 24: {},
	}
}

// plain is a valid node of an Op, with the least numbers.
func plain(op int) api.Node {
	n, r := api.Node{Op: op}, rules()[op]
	for i, f := range []*int{&n.What, &n.N, &n.M} {
		if span := [][]int{r.what, r.n, r.m}[i]; span != nil {
			*f = span[0]
		}
	}
	return n
}

// behind are parts for a node.
func behind(op int) []api.Node {
	var l []api.Node
	for _, p := range rules()[op].parts {
		l = append(l, map[rune]api.Node{'t': {Op: api.OpSelf}, 'n': {Op: api.OpBonus}}[p])
	}
	return l
}

func checkNodes(t *testing.T, want api.Errno, first api.Node, others ...api.Node) {
	t.Helper()
	l := append([]api.Node{first}, others...)
	number, e := house.CheckCond(small(), l)
	if e != want || number != (e == api.OK && first.Op > 10) {
		t.Errorf("%v: %v %v instead of %v", l, number, e, want)
	}
}

// TestFields (P4.1): which fields each node uses, and in which ranges they are.
func TestFields(t *testing.T) {
	for op, r := range rules() {
		rest := behind(op)
		checkNodes(t, api.OK, plain(op), rest...)
		for i, span := range [][]int{r.what, r.n, r.m, r.open} {
			for _, x := range []int{math.MinInt, -1, 1, 2, 3, 4, 5, 6, 7, 8, 31, 32, 1000, 1001, 1000000, 1000001, math.MaxInt, 0} {
				n := plain(op)
				*[]*int{&n.What, &n.N, &n.M, &n.Open}[i] = x
				want := api.OK
				if span == nil && x != 0 {
					want = api.ErrForm
				} else if span != nil && (x < span[0] || x > span[1]) {
					want = api.ErrRange
				}
				checkNodes(t, want, n, rest...)
			}
		}
		for _, kinds := range [][]int{{0}, {3}, {-9}, {0, 0}} {
			n := plain(op)
			n.Kinds = kinds
			want := api.ErrForm
			if r.kinds {
				want = map[int]api.Errno{-9: api.ErrRange}[kinds[0]]
				if len(kinds) > 1 {
					want = api.ErrOrder
				}
			}
			checkNodes(t, want, n, rest...)
		}
		n := plain(op)
		n.All, n.Kinds = true, []int{}
		checkNodes(t, map[bool]api.Errno{true: api.OK, false: api.ErrForm}[r.all], n, rest...)
	}
	for _, op := range []int{0, -1, 25, math.MinInt, math.MaxInt} {
		checkNodes(t, api.ErrKind, api.Node{Op: op})
		checkNodes(t, api.ErrKind, api.Node{Op: op, What: 1, N: -5, Kinds: []int{9}})
	}
}

// TestKindsOfNodes (P4.1): kinds are plain kinds, ascending, one by one.
func TestKindsOfNodes(t *testing.T) {
	for i, c := range []struct {
		s     api.Set
		kinds []int
		want  api.Errno
	}{
		{small(), []int{0, 1, 2, 3}, api.OK}, {small(), []int{4}, api.ErrRange}, {small(), []int{-1}, api.ErrRange}, {small(), []int{3, 0}, api.ErrOrder}, {small(), []int{3, 3}, api.ErrOrder}, {small(), []int{4, 0}, api.ErrRange}, {small(), []int{1, 0, 4}, api.ErrOrder}, {small(), []int{1, 4, 0}, api.ErrRange},
		{small(), []int{1, 2, math.MaxInt}, api.ErrRange}, {small(), []int{1, math.MinInt}, api.ErrRange}, {big(), []int{0, 33}, api.OK}, {big(), []int{34}, api.ErrRange}, {uneven(), []int{13}, api.OK}, {uneven(), []int{14}, api.ErrRange},
	} {
		for _, n := range []api.Node{{Op: api.OpTiles}, {Op: api.OpGroups, What: 31}, {Op: api.OpGroups, What: 1, All: true, Open: 2}} {
			n.Kinds = c.kinds
			if number, e := house.CheckCond(c.s, []api.Node{n}); e != c.want || number != (e == api.OK) {
				t.Error(i, number, e)
			}
		}
	}
}

// TestErrorsInOrder (P4.1): of several errors of a node, and of several nodes, which one comes first.
func TestErrorsInOrder(t *testing.T) {
	op, form, span, kind, order := api.Node{Op: 25, What: 40, Kinds: []int{9}}, api.Node{Op: api.OpTiles, What: 40, Kinds: []int{9}}, api.Node{Op: api.OpGroups, What: 40, Kinds: []int{9}}, api.Node{Op: api.OpGroups, What: 1, Kinds: []int{9, 1, 0}}, api.Node{Op: api.OpTiles, Kinds: []int{1, 0, 9}}
	wrong := []api.Node{op, form, span, kind, order}
	want := []api.Errno{api.ErrKind, api.ErrForm, api.ErrRange, api.ErrRange, api.ErrOrder}
	for i, a := range wrong {
		for _, b := range wrong {
			checkNodes(t, want[i], a, b)
			checkNodes(t, want[i], api.Node{Op: api.OpNot}, api.Node{Op: api.OpBonus}, a, b)
		}
		checkNodes(t, api.ErrLong, op, slices.Repeat([]api.Node{a}, 60)...)
		checkNodes(t, want[i], a, slices.Repeat([]api.Node{op}, 59)...)
	}
	for i, n := range []api.Node{{Op: api.OpLast, What: 0, M: 1}, {Op: api.OpLast, N: 9, Open: 1}, {Op: api.OpForm, N: 9, All: true}, {Op: api.OpWind, What: 99, Kinds: []int{0}}, {Op: api.OpGroups, What: 99, M: 1}} {
		if _, e := house.CheckCond(small(), []api.Node{n}); e != api.ErrForm {
			t.Error(i, e)
		}
	}
}

// TestParts (P4.1): parts that are missing, left over, or of the other type.
func TestParts(t *testing.T) {
	truth, number := api.Node{Op: api.OpSelf}, api.Node{Op: api.OpBonus}
	for op, r := range rules() {
		rest := behind(op)
		checkNodes(t, api.ErrLong, plain(op), append(slices.Clone(rest), truth)...)
		checkNodes(t, api.ErrLong, plain(op), append(slices.Clone(rest), api.Node{Op: api.OpAnd})...)
		for i := range r.parts {
			checkNodes(t, api.ErrShort, plain(op), rest[:i]...)
			l := slices.Clone(rest)
			l[i] = map[byte]api.Node{'t': number, 'n': truth}[r.parts[i]]
			checkNodes(t, api.ErrType, plain(op), l...)
			checkNodes(t, api.ErrLong, plain(op), append(l, truth)...)
			checkNodes(t, api.ErrShort, plain(op), l[:i]...)
			checkNodes(t, api.ErrShort, plain(op), append(slices.Clone(rest[:i]), api.Node{Op: api.OpNot})...)
		}
	}
	if n, e := house.CheckCond(small(), []api.Node{}); n || e != api.OK {
		t.Error(n, e)
	}
	not, sum, and, iff := api.Node{Op: api.OpNot}, api.Node{Op: api.OpSum}, api.Node{Op: api.OpAnd}, api.Node{Op: api.OpIf}
	checkNodes(t, api.OK, not, slices.Concat(slices.Repeat([]api.Node{not}, 58), []api.Node{truth})...)
	checkNodes(t, api.ErrLong, not, slices.Concat(slices.Repeat([]api.Node{not}, 59), []api.Node{truth})...)
	checkNodes(t, api.OK, sum, slices.Concat(slices.Repeat([]api.Node{sum, number}, 28), []api.Node{number, number})...)
	checkNodes(t, api.ErrShort, not, slices.Repeat([]api.Node{not}, 59)...)
	checkNodes(t, api.OK, iff, and, not, truth, truth, iff, truth, number, sum, number, number, number)
	checkNodes(t, api.ErrType, iff, and, not, truth, truth, iff, truth, number, sum, number, truth, number)
	checkNodes(t, api.ErrType, iff, and, not, truth, number, iff, truth, number, sum, number, number, number)
	checkNodes(t, api.ErrShort, iff, and, not, truth, truth, iff, truth, number, sum, number, number)
	checkNodes(t, api.ErrLong, iff, and, not, truth, truth, iff, truth, number, sum, number, number, number, number)
	checkNodes(t, api.ErrLong, truth, truth)
	checkNodes(t, api.ErrShort, and, truth)
}
