package dash_test

import (
	"math"
	"math/big"
	"reflect"
	"slices"
	"testing"

	"printworks/api"
	"printworks/dash"
	"printworks/region"
	"printworks/stroke"
)

// The signatures are those of the chapter.
var (
	_ func(api.Line) (int, api.Errno)                    = dash.Length
	_ func(api.Line, []int, int) ([]api.Line, api.Errno) = dash.Dash
)

const (
	far      = api.MaxCoord
	longest  = 65535
	greatest = 1048576 // phase
)

// unlikely fills the unused capacity of arguments.
var unlikely = api.Point{X: -77, Y: -77}

// notPermitted are coordinates that no point has.
var notPermitted = []int{far + 1, -far - 1, math.MaxInt, math.MinInt}

// points returns the points whose coordinates are given, first that to the right.
func points(coordinates ...int) []api.Point {
	var list []api.Point
	for i := 0; i < len(coordinates); i += 2 {
		list = append(list, api.Point{X: coordinates[i], Y: coordinates[i+1]})
	}
	return list
}

// open returns a line that is not closed.
func open(coordinates ...int) api.Line {
	return api.Line{Points: points(coordinates...)}
}

// closed returns a closed line.
func closed(coordinates ...int) api.Line {
	return api.Line{Points: points(coordinates...), Closed: true}
}

// lines returns a list of lines, one for each list of coordinates.
func lines(each ...[]int) []api.Line {
	var list []api.Line
	for _, coordinates := range each {
		list = append(list, open(coordinates...))
	}
	return list
}

// modelSide is a side of a model.
type modelSide struct {
	p, q          api.Point
	begin, length int
}

func (s modelSide) end() int { return s.begin + s.length }

// model is a line as the words of the chapter describe it.
type model []modelSide

func modelOf(l api.Line) model {
	var m model
	n := len(l.Points)
	for i := 1; i < n; i++ {
		m = m.with(l.Points[i-1], l.Points[i])
	}
	if l.Closed && n >= 2 {
		m = m.with(l.Points[n-1], l.Points[0])
	}
	return m
}

// with adds the side from p to q.
func (m model) with(p, q api.Point) model {
	dx, dy := big.NewInt(int64(q.X-p.X)), big.NewInt(int64(q.Y-p.Y))
	square := new(big.Int).Mul(dx, dx)
	square.Add(square, new(big.Int).Mul(dy, dy))
	return append(m, modelSide{p, q, m.length(), int(square.Sqrt(square).Int64())})
}

// length is the sum of the lengths of the sides.
func (m model) length() int {
	sum := 0
	for _, s := range m {
		sum += s.length
	}
	return sum
}

// round is Round of the product of a and b, and of c.
func round(a, b, c int) int {
	above := new(big.Int).Mul(big.NewInt(2*int64(a)), big.NewInt(int64(b)))
	above.Add(above, big.NewInt(int64(c)))
	// Div goes to floor, since c is positive.
	return int(above.Div(above, big.NewInt(2*int64(c))).Int64())
}

// at returns the point at the position s.
func (m model) at(s int) api.Point {
	for _, a := range m {
		if a.begin <= s && s <= a.end() && a.length > 0 {
			return api.Point{X: a.p.X + round(a.q.X-a.p.X, s-a.begin, a.length), Y: a.p.Y + round(a.q.Y-a.p.Y, s-a.begin, a.length)}
		}
	}
	panic("there is no such position")
}

// dash returns the dash that covers the positions from a to b, if some of it is on the line.
func (m model) dash(a, b int) (api.Line, bool) {
	a, b = max(a, 0), min(b, m.length())
	if a >= b {
		return api.Line{}, false
	}
	list := []api.Point{m.at(a)}
	for _, s := range m {
		if s.end() > a && s.end() < b {
			list = append(list, s.q)
		}
	}
	return api.Line{Points: append(list, m.at(b))}, true
}

// dashes goes through the pattern from its very beginning.
func (m model) dashes(pattern []int, phase int) []api.Line {
	var list []api.Line
	length, from, isDash := m.length(), 0, true
	for i := 0; from-phase < length; i++ {
		to := from + pattern[i%len(pattern)]
		if d, ok := m.dash(from-phase, to-phase); isDash && ok {
			list = append(list, d)
		}
		from, isDash = to, !isDash
	}
	return list
}

// equal tells whether two lists have the same lines.
func equal(a, b []api.Line) bool {
	return len(a)+len(b) == 0 || reflect.DeepEqual(a, b)
}

// isDashed checks the dashes of a line.
func isDashed(t *testing.T, l api.Line, pattern []int, phase int, want []api.Line) {
	t.Helper()
	if got, e := dash.Dash(l, pattern, phase); e != api.OK || !equal(got, want) {
		t.Fatal(l, pattern, phase, "Dash", got, e, "instead of", want)
	}
}

// isAsModel checks the dashes of a line with the words of the chapter.
func isAsModel(t *testing.T, l api.Line, pattern []int, phase int) {
	t.Helper()
	isDashed(t, l, pattern, phase, modelOf(l).dashes(pattern, phase))
}

// isRefused checks that Dash has the error e and no dashes.
func isRefused(t *testing.T, l api.Line, pattern []int, phase int, e api.Errno) {
	t.Helper()
	if got, is := dash.Dash(l, pattern, phase); is != e || got != nil {
		t.Fatal(l, pattern, phase, "Dash", len(got), is, "instead of", e)
	}
}

// hasLength checks the length of a line.
func hasLength(t *testing.T, l api.Line, want int) {
	t.Helper()
	if n, e := dash.Length(l); n != want || e != api.OK {
		t.Fatal(l, "Length", n, e, "instead of", want)
	}
}

// picker picks numbers, always the same ones.
type picker struct{ state uint64 }

func (p *picker) below(n int) int {
	p.state = p.state*6364136223846793005 + 1442695040888963407
	return int(p.state>>33) % n
}

// between returns a number from a to b.
func (p *picker) between(a, b int) int {
	return a + p.below(b-a+1)
}

// line returns a line with coordinates from -size to size, of which some points are repeated.
func (p *picker) line(size, most int) api.Line {
	l := api.Line{Closed: p.below(2) == 0}
	for range p.below(most + 1) {
		at := api.Point{X: p.between(-size, size), Y: p.between(-size, size)}
		if n := len(l.Points); n > 0 && p.below(3) == 0 {
			at = l.Points[p.below(n)]
		}
		for range p.between(1, 6) / 2 {
			l.Points = append(l.Points, at)
		}
	}
	return l
}

// pattern returns a pattern with elements up to the given one.
func (p *picker) pattern(most int) []int {
	var list []int
	for range p.between(1, 16) {
		list = append(list, p.between(1, most))
	}
	return list
}

// The example of the chapter.
func TestExample(t *testing.T) {
	bar := open(0, 0, 10, 0)
	isDashed(t, bar, []int{4, 2}, 1, lines([]int{0, 0, 3, 0}, []int{5, 0, 9, 0}))
	hasLength(t, bar, 10)
}

// P169: both functions first return the error of the line, also for a wrong pattern or phase.
func TestErrorsOfLine(t *testing.T) {
	for _, n := range notPermitted {
		for _, l := range []api.Line{open(n, 0), open(0, n), open(0, 0, n, 0), closed(0, 0, 4, 4, 0, n), closed(0, 0, 0, n, 4, 4)} {
			if length, e := dash.Length(l); length != 0 || e != api.ErrRange {
				t.Error(l, length, e)
			}
			for _, pattern := range [][]int{{4, 2}, {0}, nil, make([]int, 17)} {
				isRefused(t, l, pattern, 0, api.ErrRange)
			}
			isRefused(t, l, []int{1}, -1, api.ErrRange)
		}
	}
	isRefused(t, open(-far, 0, far, 0, far+1, 0), []int{1}, 0, api.ErrRange)
}

// P169: the lengths of all short sides are rounded down.
func TestLengthsOfSides(t *testing.T) {
	for dx := -60; dx <= 60; dx++ {
		for dy := -60; dy <= 60; dy++ {
			n := 0
			for (n+1)*(n+1) <= dx*dx+dy*dy {
				n++
			}
			hasLength(t, open(3, -4, 3+dx, -4+dy), n)
			hasLength(t, closed(3, -4, 3+dx, -4+dy), 2*n)
		}
	}
}

// P169: long sides.
func TestLengthsOfLongSides(t *testing.T) {
	hasLength(t, open(-far, 0, far, 0), 65534)
	hasLength(t, open(0, far, 0, -far), 65534)
	hasLength(t, open(-far, -far, far, far), 92679)
	hasLength(t, closed(-far, -far, far, -far, far, far), 2*65534+92679)
	p := picker{1}
	for range 2000 {
		l := p.line(far, 6)
		hasLength(t, l, modelOf(l).length())
	}
}

// P169: each side is rounded down alone; a closed line has one side more if it has two points, and a single point has none.
func TestSums(t *testing.T) {
	for _, c := range []struct {
		l    api.Line
		want int
	}{
		{open(), 0},
		{closed(), 0},
		{open(5, 5), 0},
		{closed(5, 5), 0},
		{open(5, 5, 5, 5), 0},
		{closed(5, 5, 5, 5), 0},
		{open(0, 0, 3, 4), 5},
		{closed(0, 0, 3, 4), 10},
		{open(0, 0, 1, 1, 2, 2, 3, 3), 3},
		{open(0, 0, 3, 3), 4},
		{open(0, 0, 3, 0, 3, 4), 7},
		{closed(0, 0, 3, 0, 3, 4), 12},
		{closed(0, 0, 3, 0, 3, 0, 3, 4, 0, 0), 12},
		{open(0, 0, 3, 0, 0, 0, 3, 0), 9},
	} {
		hasLength(t, c.l, c.want)
		if got := modelOf(c.l).length(); got != c.want {
			t.Error(c, got)
		}
	}
}

// piece returns the points of the dash from a to b of a line, which is its first one.
func piece(t *testing.T, l api.Line, a, b int) []api.Point {
	t.Helper()
	pattern, phase := []int{b - a, longest}, 0
	if a > 0 {
		pattern, phase = []int{1, a, b - a, longest}, 1
	}
	dashes, e := dash.Dash(l, pattern, phase)
	if e != api.OK || len(dashes) == 0 {
		t.Fatal(l, a, b, dashes, e)
	}
	return dashes[0].Points
}

// P170: halves are rounded up, to the right and downwards, whichever way the side leads.
func TestHalves(t *testing.T) {
	for _, c := range []struct {
		l    api.Line
		want api.Point
	}{
		{open(0, 0, 1, 2), api.Point{X: 1, Y: 1}},
		{open(0, 0, -1, 2), api.Point{X: 0, Y: 1}},
		{open(0, 0, 2, 1), api.Point{X: 1, Y: 1}},
		{open(0, 0, 2, -1), api.Point{X: 1, Y: 0}},
		{open(0, 0, 1, -2), api.Point{X: 1, Y: -1}},
		{open(0, 0, -2, -1), api.Point{X: -1, Y: 0}},
		{open(7, -5, 6, -7), api.Point{X: 7, Y: -6}},
	} {
		if got := piece(t, c.l, 0, 1)[1]; got != c.want {
			t.Error(c, "end", got)
		}
		if got := piece(t, c.l, 1, 2)[0]; got != c.want {
			t.Error(c, "beginning", got)
		}
	}
}

// P170: all positions of all short sides, which end at their ends although their lengths are rounded down.
func TestPositions(t *testing.T) {
	for dx := -9; dx <= 9; dx++ {
		for dy := -9; dy <= 9; dy++ {
			l := open(2, -3, 2+dx, -3+dy)
			m := modelOf(l)
			for b := 1; b <= m.length(); b++ {
				for a := range b {
					if got := piece(t, l, a, b); !slices.Equal(got, []api.Point{m.at(a), m.at(b)}) {
						t.Fatal(l, a, b, got)
					}
				}
			}
			if n := m.length(); n > 0 && !slices.Equal(piece(t, l, 0, n), l.Points) {
				t.Fatal(l)
			}
		}
	}
}

// P170: positions of long sides.
func TestPositionsOfLongSides(t *testing.T) {
	p := picker{2}
	sides := []api.Line{open(-far, -far, far, far), open(far, -far, -far, far), open(far, far, -far, -far), open(-far, 0, far, 1), open(0, far, -1, -far)}
	for range 500 {
		sides = append(sides, open(p.between(-far, far), p.between(-far, far), p.between(-far, far), p.between(-far, far)))
	}
	for _, l := range sides {
		m := modelOf(l)
		for range 20 {
			a := p.below(min(m.length(), longest))
			b := min(m.length(), a+p.between(1, longest))
			if got := piece(t, l, a, b); !slices.Equal(got, []api.Point{m.at(a), m.at(b)}) {
				t.Fatal(l, a, b, got)
			}
		}
	}
}

// P171: dashes go around corners, and begin and end at them; a dash has a corner once, be it within it or at its end.
func TestCorners(t *testing.T) {
	angle := open(0, 0, 6, 0, 6, 6)
	isDashed(t, angle, []int{9, 1}, 0, lines([]int{0, 0, 6, 0, 6, 3}, []int{6, 4, 6, 6}))
	isDashed(t, angle, []int{6, 1}, 0, lines([]int{0, 0, 6, 0}, []int{6, 1, 6, 6}))
	isDashed(t, angle, []int{2, 4, 3, 2}, 0, lines([]int{0, 0, 2, 0}, []int{6, 0, 6, 3}, []int{6, 5, 6, 6}))
	isDashed(t, angle, []int{5, 1}, 0, lines([]int{0, 0, 5, 0}, []int{6, 0, 6, 5}))
	isDashed(t, open(0, 0, 2, 0, 4, 0, 4, 2, 2, 2), []int{7, 1}, 0, lines([]int{0, 0, 2, 0, 4, 0, 4, 2, 3, 2}))
	isDashed(t, open(0, 0, 2, 0, 4, 0, 4, 2, 2, 2), []int{100}, 0, lines([]int{0, 0, 2, 0, 4, 0, 4, 2, 2, 2}))
}

// P171: dashes are not closed, also those that go along the closing side to the first point, or all around.
func TestClosed(t *testing.T) {
	square := closed(0, 0, 4, 0, 4, 4, 0, 4)
	isDashed(t, square, []int{6, 4}, 0, lines([]int{0, 0, 4, 0, 4, 2}, []int{2, 4, 0, 4, 0, 0}))
	isDashed(t, square, []int{100}, 0, lines([]int{0, 0, 4, 0, 4, 4, 0, 4, 0, 0}))
	isDashed(t, square, []int{2, 12}, 0, lines([]int{0, 0, 2, 0}, []int{0, 2, 0, 0}))
	isDashed(t, closed(0, 0, 4, 0), []int{6, 1}, 0, lines([]int{0, 0, 4, 0, 2, 0}, []int{1, 0, 0, 0}))
	isDashed(t, open(0, 0, 4, 0), []int{6, 1}, 0, lines([]int{0, 0, 4, 0}))
}

// P169 to P171: sides without length have ends, which a dash has if they are within it, but not at its own ends.
func TestRepeatedPoints(t *testing.T) {
	l := open(0, 0, 0, 0, 3, 0, 3, 0, 3, 0, 3, 3, 3, 3)
	isDashed(t, l, []int{100}, 0, lines([]int{0, 0, 3, 0, 3, 0, 3, 0, 3, 3}))
	isDashed(t, l, []int{3, 1}, 0, lines([]int{0, 0, 3, 0}, []int{3, 1, 3, 3}))
	isDashed(t, l, []int{1, 2, 100}, 0, lines([]int{0, 0, 1, 0}, []int{3, 0, 3, 3}))
	isDashed(t, l, []int{4, 1}, 0, lines([]int{0, 0, 3, 0, 3, 0, 3, 0, 3, 1}, []int{3, 2, 3, 3}))
	isDashed(t, closed(0, 0, 3, 0, 0, 0), []int{4, 1}, 0, lines([]int{0, 0, 3, 0, 2, 0}, []int{1, 0, 0, 0}))
}

// P171: a line without length has no dashes, also if a dash of the pattern has begun before it.
func TestNoLength(t *testing.T) {
	for _, l := range []api.Line{open(), closed(), open(1, 2), closed(1, 2), open(1, 2, 1, 2), closed(1, 2, 1, 2, 1, 2)} {
		for phase := range 12 {
			isDashed(t, l, []int{4, 2}, phase, nil)
			isDashed(t, l, []int{3}, phase, nil)
		}
	}
}

// P171: if the number of elements is odd, gaps and dashes change places at each repetition.
func TestOddPatterns(t *testing.T) {
	bar := open(0, 0, 20, 0)
	isDashed(t, bar, []int{3}, 0, lines([]int{0, 0, 3, 0}, []int{6, 0, 9, 0}, []int{12, 0, 15, 0}, []int{18, 0, 20, 0}))
	isDashed(t, bar, []int{5, 2, 1}, 0, lines([]int{0, 0, 5, 0}, []int{7, 0, 8, 0}, []int{13, 0, 15, 0}, []int{16, 0, 20, 0}))
	isDashed(t, bar, []int{5, 2, 1}, 8, lines([]int{5, 0, 7, 0}, []int{8, 0, 13, 0}, []int{15, 0, 16, 0}))
	isDashed(t, bar, []int{5, 2, 1}, 16, lines([]int{0, 0, 5, 0}, []int{7, 0, 8, 0}, []int{13, 0, 15, 0}, []int{16, 0, 20, 0}))
	isDashed(t, bar, []int{5, 2}, 7, lines([]int{0, 0, 5, 0}, []int{7, 0, 12, 0}, []int{14, 0, 19, 0}))
}

// P171: what lies before the line or after it is cut off, and an element that only touches it gives nothing.
func TestEndsOfLine(t *testing.T) {
	bar := open(0, 0, 10, 0)
	isDashed(t, bar, []int{4, 2}, 0, lines([]int{0, 0, 4, 0}, []int{6, 0, 10, 0}))
	isDashed(t, bar, []int{4, 2}, 3, lines([]int{0, 0, 1, 0}, []int{3, 0, 7, 0}, []int{9, 0, 10, 0}))
	isDashed(t, bar, []int{4, 2}, 4, lines([]int{2, 0, 6, 0}, []int{8, 0, 10, 0}))
	isDashed(t, bar, []int{4, 6}, 4, lines([]int{6, 0, 10, 0}))
	isDashed(t, bar, []int{4, 6}, 0, lines([]int{0, 0, 4, 0}))
	isDashed(t, bar, []int{4, 10}, 4, nil)
	isDashed(t, bar, []int{4, longest}, 4, nil)
	isDashed(t, bar, []int{longest, 1}, 0, lines([]int{0, 0, 10, 0}))
	isDashed(t, bar, []int{longest, 1}, longest-1, lines([]int{0, 0, 1, 0}, []int{2, 0, 10, 0}))
}

// P171: phases over several repetitions of patterns with any number of elements, up to the greatest phase.
func TestPhases(t *testing.T) {
	l := closed(0, 0, 9, 2, 9, 2, 5, 9)
	p := picker{3}
	for count := 1; count <= 16; count++ {
		pattern := p.pattern(4)
		for len(pattern) < count {
			pattern = append(pattern, p.between(1, 4))
		}
		pattern = pattern[:count]
		for phase := range 150 {
			isAsModel(t, l, pattern, phase)
		}
		for _, phase := range []int{p.below(greatest), greatest - 1, greatest} {
			isAsModel(t, l, pattern, phase)
		}
	}
	isAsModel(t, l, []int{longest}, greatest)
	isAsModel(t, l, []int{longest, 7, longest}, greatest-9)
}

// P169 to P171: lines of any size, with any pattern.
func TestDashes(t *testing.T) {
	p := picker{4}
	for range 20000 {
		isAsModel(t, p.line(4, 7), p.pattern(5), p.below(100))
	}
	for range 3000 {
		isAsModel(t, p.line(300, 7), p.pattern([]int{20, 100, 2000}[p.below(3)]), p.below(5000))
	}
	for range 500 {
		l, pattern := p.line(far, 7), p.pattern(longest)
		for i := range pattern {
			pattern[i] = max(pattern[i], 2000)
		}
		isAsModel(t, l, pattern, p.below(greatest+1))
	}
}

// P172: patterns have 1 to 16 elements from 1 to 65535, and phases go from 0 to 1048576.
func TestPermittedPatterns(t *testing.T) {
	bar := open(0, 0, 10, 0)
	for count := 1; count <= 16; count++ {
		isDashed(t, bar, slices.Repeat([]int{longest}, count), 0, lines([]int{0, 0, 10, 0}))
		isDashed(t, bar, slices.Repeat([]int{1}, count), greatest, lines([]int{0, 0, 1, 0}, []int{2, 0, 3, 0}, []int{4, 0, 5, 0}, []int{6, 0, 7, 0}, []int{8, 0, 9, 0}))
	}
}

// P172: the errors of patterns and phases.
func TestErrorsOfPatterns(t *testing.T) {
	for _, l := range []api.Line{open(), open(0, 0), open(0, 0, 10, 0), open(-far, 0, far, 0)} {
		for _, pattern := range [][]int{nil, {}, make([]int, 17), slices.Repeat([]int{5000}, 17), make([]int, 1000)} {
			isRefused(t, l, pattern, 0, api.ErrLarge)
		}
		for _, n := range []int{0, -1, longest + 1, math.MaxInt, math.MinInt} {
			for _, pattern := range [][]int{{n}, {n, 9000}, {9000, n}, {9000, n, 9000}, append(slices.Repeat([]int{9000}, 15), n)} {
				isRefused(t, l, pattern, 0, api.ErrRange)
			}
		}
		for _, phase := range []int{-1, greatest + 1, math.MaxInt, math.MinInt} {
			isRefused(t, l, []int{9000}, phase, api.ErrRange)
		}
	}
}

// P172: the number of elements comes before their range and that of the phase, and these come before the number of dashes.
func TestOrderOfErrors(t *testing.T) {
	bar := open(-far, 0, far, 0)
	isRefused(t, bar, make([]int, 17), -1, api.ErrLarge)
	isRefused(t, bar, nil, -1, api.ErrLarge)
	isRefused(t, bar, []int{1}, 0, api.ErrLarge)
	isRefused(t, bar, []int{1}, greatest+1, api.ErrRange)
	isRefused(t, bar, []int{1, 1, 0}, 0, api.ErrRange)
}

// P172: there may be 10,000 dashes, be they whole or not, but no more. Only those on the line count.
func TestTooMany(t *testing.T) {
	of := func(length int) api.Line { return open(-far, 0, length-far, 0) }
	for _, c := range []struct {
		length  int
		pattern []int
		phase   int
		e       api.Errno
	}{
		{19999, []int{1}, 0, api.OK},
		{20000, []int{1}, 0, api.OK},
		{20001, []int{1}, 0, api.ErrLarge},
		{20000, []int{1}, 1, api.OK},
		{20001, []int{1}, 1, api.OK},
		{20002, []int{1}, 1, api.ErrLarge},
		{20000, []int{1}, greatest, api.OK},
		{20001, []int{1}, greatest, api.ErrLarge},
		{60000, []int{3, 3}, 0, api.OK},
		{60000, []int{3, 3}, 2, api.ErrLarge},
		{59999, []int{3, 3}, 2, api.ErrLarge},
		{59998, []int{3, 3}, 2, api.OK},
		{60000, []int{3, 3}, 3, api.OK},
		{60001, []int{3, 3}, 0, api.ErrLarge},
		{65534, []int{3, 3}, 0, api.ErrLarge},
		{65534, []int{3, 4}, 0, api.OK},
	} {
		got, e := dash.Dash(of(c.length), c.pattern, c.phase)
		if e != c.e || (e == api.OK) != (len(got) > 0) || len(got) > 10000 {
			t.Error(c, len(got), e)
		}
	}
	full, _ := dash.Dash(of(20000), []int{1}, 0)
	if len(full) != 10000 || !slices.Equal(full[9999].Points, points(19998-far, 0, 19999-far, 0)) {
		t.Error(len(full))
	}
}

// P169 to P172: lines of many sides take the time of their points and dashes.
func TestManySides(t *testing.T) {
	const corners = 1000000
	zigzag := api.Line{Points: make([]api.Point, corners)}
	for i := range zigzag.Points {
		zigzag.Points[i] = api.Point{X: i % 2 * 2}
	}
	if n, e := dash.Length(zigzag); n != 2*(corners-1) || e != api.OK {
		t.Fatal(n, e)
	}
	// Dashes begin, in turn, at corners and in the middle of sides.
	dashes, e := dash.Dash(zigzag, []int{150, 51}, 0)
	if e != api.OK || len(dashes) != 9951 {
		t.Fatal(len(dashes), e)
	}
	for i, d := range dashes[:9950] {
		if len(d.Points) != 76+i%2 || d.Closed {
			t.Fatal(i, len(d.Points), d.Closed)
		}
	}
	if dashes, e := dash.Dash(zigzag, []int{100}, 0); e != api.OK || len(dashes) != 10000 {
		t.Fatal(len(dashes), e)
	}
	if dashes, e := dash.Dash(zigzag, []int{99}, 0); e != api.ErrLarge || dashes != nil {
		t.Fatal(len(dashes), e)
	}
}

// P171 and P857: the stroke of the dashes lies within the stroke of the line, 6 cells wider.
func TestDashesLieOnTheLine(t *testing.T) {
	p := picker{5}
	for range 400 {
		l, width := p.line(100, 5), p.between(1, 30)
		dashes, e := dash.Dash(l, p.pattern(40), p.below(100))
		if e != api.OK {
			t.Fatal(l, e)
		}
		s := api.Stroke{Width: width, Cap: api.CapRound, Join: api.JoinRound, Limit: 16}
		inner, _ := stroke.Stroke(dashes, s)
		s.Width += 6
		outer, _ := stroke.Stroke([]api.Line{l}, s)
		if beside, e := region.Minus(inner, outer); e != api.OK || len(beside) > 0 {
			t.Fatal(l, width, beside, e)
		}
	}
}

// spoil overwrites points, with their unused capacity.
func spoil(list []api.Point) {
	for i := range list[:cap(list)] {
		list[:cap(list)][i] = unlikely
	}
}

// P2: results are equal for equal arguments, arguments keep their elements and their unused capacity, and nothing is shared.
func TestArgumentsAndResults(t *testing.T) {
	p := picker{6}
	for range 2000 {
		l, pattern, phase := p.line(30, 6), p.pattern(9), p.below(100)
		want := modelOf(l).dashes(pattern, phase)
		whole, elements := append(slices.Clone(l.Points), unlikely, unlikely), append(slices.Clone(pattern), -77, -77)
		given := api.Line{Points: slices.Clone(whole)[:len(l.Points)], Closed: l.Closed}
		givenPattern := slices.Clone(elements)[:len(pattern)]
		hasLength(t, given, modelOf(l).length())
		dashes, e := dash.Dash(given, givenPattern, phase)
		if e != api.OK || !equal(dashes, want) {
			t.Fatal(l, pattern, phase, dashes, e)
		}
		for i := range dashes {
			spoil(dashes[i].Points)
			if !equal(dashes[i+1:], want[i+1:]) {
				t.Fatal("shared", l, pattern, phase)
			}
		}
		isDashed(t, given, givenPattern, phase, want)
		if !slices.Equal(given.Points[:len(whole)], whole) || !slices.Equal(givenPattern[:len(elements)], elements) {
			t.Fatal("changed", l, pattern, phase)
		}
	}
}
