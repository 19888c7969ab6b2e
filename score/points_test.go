package score_test

import (
	"math"
	"testing"

	"sparrow/api"
	"sparrow/score"
)

// TestPoints (P5.1): the chapter's examples; limits, from the first one on and below it; doubling; and what is the most.
func TestPoints(t *testing.T) {
	y := three().Scale
	plain, double := api.Scale{Base: 3, Round: 1}, api.Scale{Base: 1, Double: true, Round: 1}
	limited := api.Scale{Base: 10, Round: 1, Limits: []api.Limit{{From: 3, Points: 25}, {From: 4, Points: 25}, {From: 1000, Points: 1000000}}}
	nothing := api.Scale{Base: 10, Round: 1, Limits: []api.Limit{{From: 2, Points: 0}, {From: 5, Points: 7}}}
	for i, c := range []struct {
		s                  api.Scale
		minor, value, want int
	}{
		{y, 30, 1, 480}, {y, 30, 3, 1920}, {y, 30, 4, 2000}, {y, 30, 5, 2000}, {y, 30, 13, 3000}, {y, 30, 0, 240}, {y, 0, 4, 0}, {y, 0, 5, 2000}, {y, 1000, 6, 3000}, {y, 31, 3, 1984}, {y, 32, 3, 2000},
		{plain, 1, 1, 3}, {plain, 10, 7, 210}, {plain, 10, 0, 0}, {plain, 0, 10, 0}, {plain, 1000, 333, 999000}, {plain, 1000, 334, 1000000}, {plain, 1000, 1 << 30, 1000000}, {plain, 1, 1 << 30, 1000000},
		{double, 1, 0, 1}, {double, 1, 19, 524288}, {double, 1, 20, 1000000}, {double, 1, 1 << 30, 1000000}, {double, 0, 1 << 30, 0}, {double, 15, 16, 983040}, {double, 1000, 63, 1000000}, {double, 1000, 64, 1000000},
		{limited, 1, 1, 10}, {limited, 1, 2, 20}, {limited, 2, 1, 20}, {limited, 3, 1, 25}, {limited, 1, 3, 25}, {limited, 0, 3, 25}, {limited, 1000, 999, 25}, {limited, 0, 1000, 1000000}, {limited, 0, 1 << 30, 1000000},
		{nothing, 1, 1, 0}, {nothing, 1, 2, 0}, {nothing, 1, 4, 0}, {nothing, 1, 5, 7},
		{api.Scale{Round: 1}, 1000, 1 << 30, 0}, {api.Scale{Base: 1000, Double: true, Round: 10000}, 1000, 0, 1000000}, {api.Scale{Base: 1000, Round: 1}, 1000, 1, 1000000},
	} {
		if n := score.Points(c.s, c.minor, c.value); n != c.want {
			t.Errorf("%d: %d instead of %d", i, n, c.want)
		}
	}
}

// TestNoPoints (P5.1): nothing is worth anything on a scale that is not valid, nor with numbers out of range.
func TestNoPoints(t *testing.T) {
	for i, s := range []api.Scale{
		{Base: 1}, {Base: -1, Round: 1}, {Base: 1001, Round: 1}, {Base: 1, Round: 10001}, {Base: 1, Round: 1, Limits: []api.Limit{{From: 0, Points: 5}}},
		{Base: 1, Round: 1, Limits: []api.Limit{{From: 1, Points: 5}, {From: 1, Points: 6}}}, {Base: 1, Round: 1, Limits: make([]api.Limit, 13)},
	} {
		if n := score.Points(s, 10, 10); n != 0 {
			t.Error(i, n)
		}
	}
	s := api.Scale{Base: 1, Round: 1, Limits: []api.Limit{{From: 1, Points: 5}}}
	for i, c := range [][2]int{{-1, 1}, {1001, 1}, {1, -1}, {1, 1<<30 + 1}, {math.MaxInt, 1}, {math.MinInt, 1}, {1, math.MaxInt}, {1, math.MinInt}} {
		if n := score.Points(s, c[0], c[1]); n != 0 {
			t.Error(i, n)
		}
	}
	if score.Points(s, 0, 1) != 5 || score.Points(s, 1000, 1<<30) != 5 {
		t.Error("numbers that are just in range")
	}
}

// pointsOf adds up and doubles step by step, and stops behind MaxPoints.
func pointsOf(s api.Scale, minor, value int) int {
	last := -1
	for i, l := range s.Limits {
		if value >= l.From {
			last = i
		}
	}
	if last >= 0 {
		return s.Limits[last].Points
	}
	n := 0
	if s.Double {
		n = s.Base * minor
	}
	for i := 0; i < value && n <= api.MaxPoints; i++ {
		if s.Double {
			n += n
		} else {
			n += s.Base * minor
		}
	}
	if len(s.Limits) > 0 {
		n = min(n, s.Limits[0].Points)
	}
	return min(n, api.MaxPoints)
}

// TestPointsOfScales (P5.1, P5.8): points are as said, and never fall with a greater value, nor with more minor points.
func TestPointsOfScales(t *testing.T) {
	d := dice(13)
	for range 300 {
		s := d.scale()
		for range 100 {
			minor, value := d.below([]int{5, 50, 1000}[d.below(3)]), d.below([]int{5, 20, 2000}[d.below(3)])
			n := score.Points(s, minor, value)
			if want := pointsOf(s, minor, value); n != want {
				t.Fatal(s, minor, value, n, want)
			}
			if score.Points(s, minor+1, value) < n || score.Points(s, minor, value+1) < n || score.Points(s, 1000, value) < n || score.Points(s, minor, value+d.below(1000)) < n {
				t.Fatal(s, minor, value, n)
			}
		}
	}
}
