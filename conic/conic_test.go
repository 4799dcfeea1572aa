package conic_test

import (
	"math"
	"math/big"
	"slices"
	"testing"

	"printworks/api"
	"printworks/conic"
	"printworks/path"
)

// The signatures are those of the chapter.
var (
	_ func(api.Point, api.Seg) ([]api.Point, api.Errno) = conic.Points
	_ func([]api.Seg) ([]api.Line, api.Errno)           = conic.Flatten
)

const (
	most         = api.MaxCoord
	leastWeight  = 16
	mostWeight   = 4096
	mostDivision = 512
)

// beyond has numbers that are no coordinates.
var beyond = []int{most + 1, -most - 1, 40000, -99999, 1 << 32, -1 << 32, math.MaxInt, math.MinInt, math.MinInt + 1}

// noWeights has numbers that are no weights.
var noWeights = []int{leastWeight - 1, mostWeight + 1, 0, -256, 1<<32 + 256, math.MaxInt, math.MinInt}

func at(x, y int) api.Point {
	return api.Point{X: x, Y: y}
}

func line(x, y int) api.Seg {
	return api.Seg{Kind: api.SegLine, X: x, Y: y}
}

func curve(u, v, x, y, w int) api.Seg {
	return api.Seg{Kind: api.SegCurve, X: x, Y: y, U: u, V: v, W: w}
}

// piece is a segment with its beginning.
type piece struct {
	from api.Point
	s    api.Seg
}

// pointAt returns the point at k/n of a curve, from numbers of any size.
func (p piece) pointAt(k, n int) api.Point {
	first, middle, last := 256*(n-k)*(n-k), 2*k*(n-k)*p.s.W, 256*k*k
	coordinate := func(c0, c1, c2 int) int {
		sum := new(big.Int)
		for _, product := range [][2]int{{first, c0}, {middle, c1}, {last, c2}} {
			sum.Add(sum, new(big.Int).Mul(big.NewInt(int64(product[0])), big.NewInt(int64(product[1]))))
		}
		whole := big.NewInt(int64(first + middle + last))
		sum.Add(sum.Lsh(sum, 1), whole)
		// Div of package big rounds down if the divisor is positive.
		return int(sum.Div(sum, whole.Lsh(whole, 1)).Int64())
	}
	return at(coordinate(p.from.X, p.s.U, p.s.X), coordinate(p.from.Y, p.s.V, p.s.Y))
}

// isFlat tells whether a curve is flat at n.
func (p piece) isFlat(n int) bool {
	for k := range n {
		a, b, m := p.pointAt(k, n), p.pointAt(k+1, n), p.pointAt(2*k+1, 2*n)
		if m.X < min(a.X, b.X)-1 || m.X > max(a.X, b.X)+1 || m.Y < min(a.Y, b.Y)-1 || m.Y > max(a.Y, b.Y)+1 {
			return false
		}
		double := (b.X-a.X)*(m.Y-a.Y) - (b.Y-a.Y)*(m.X-a.X)
		if magnitude(double) > max(magnitude(b.X-a.X), magnitude(b.Y-a.Y), 1) {
			return false
		}
	}
	return true
}

func magnitude(n int) int {
	if n < 0 {
		return -n
	}
	return n
}

// division returns the division of a curve.
func (p piece) division() int {
	for n := 1; n <= mostDivision; n *= 2 {
		if p.isFlat(n) {
			return n
		}
	}
	return mostDivision
}

// picker gives numbers that follow a fixed rule.
type picker struct{ state uint64 }

func (p *picker) below(n int) int {
	p.state = p.state*6364136223846793005 + 1442695040888963407
	return int(p.state>>33) % n
}

// point returns a point with coordinates from -size to size; the ends are frequent.
func (p *picker) point(size int) api.Point {
	coordinate := func() int {
		if p.below(8) == 0 {
			return size * (1 - 2*p.below(2))
		}
		return p.below(2*size+1) - size
	}
	return at(coordinate(), coordinate())
}

func (p *picker) weight() int {
	switch p.below(4) {
	case 0:
		return leastWeight + p.below(mostWeight-leastWeight+1)
	case 1:
		return leastWeight + p.below(500)
	}
	return []int{leastWeight, leastWeight + 1, 181, 255, 256, 257, mostWeight - 1, mostWeight}[p.below(8)]
}

// curve returns a curve whose coordinates are at most size.
func (p *picker) curve(size int) piece {
	from, control, to := p.point(size), p.point(size), p.point(size)
	return piece{from, curve(control.X, control.Y, to.X, to.Y, p.weight())}
}

// straight returns a curve whose three points lie on a line.
func (p *picker) straight(size int) piece {
	way, w := p.point(size), p.weight()
	a, b, c := p.below(41)-20, p.below(41)-20, p.below(41)-20
	return piece{at(a*way.X/20, a*way.Y/20), curve(b*way.X/20, b*way.Y/20, c*way.X/20, c*way.Y/20, w)}
}

// curves returns curves of all sizes.
func curves() []piece {
	p := picker{1}
	var list []piece
	for range 150 {
		for _, size := range []int{2, 4, 10, 40, 300, 2000} {
			list = append(list, p.curve(size), p.straight(size))
		}
	}
	for range 20 {
		list = append(list, p.curve(most), p.straight(most))
	}
	return append(list, wild...)
}

// wild has curves that are not flat at 512.
var wild = []piece{
	{at(-most, -most), curve(-most, most, most, most, 16)},
	{at(most, most), curve(most, -most, -most, -most, 64)},
	{at(-most, -most), curve(-most, most, most, most, 512)},
}

// mixed returns valid paths of lines and curves, open and closed.
func mixed() [][]api.Seg {
	p := picker{2}
	list := [][]api.Seg{nil, {}, {{Kind: api.SegMove, X: 3, Y: -4}}, {{Kind: api.SegMove}, {Kind: api.SegClose}}}
	for n := range 300 {
		var segs []api.Seg
		for len(segs) < 1+n%19 {
			end := p.point(500)
			kind := p.below(5)
			switch {
			case len(segs) == 0 || segs[len(segs)-1].Kind == api.SegClose || kind == 0:
				segs = append(segs, api.Seg{Kind: api.SegMove, X: end.X, Y: end.Y})
			case kind == 1:
				segs = append(segs, api.Seg{Kind: api.SegClose})
			case kind == 2:
				segs = append(segs, line(end.X, end.Y))
			default:
				segs = append(segs, p.curve(500).s)
			}
		}
		list = append(list, segs)
	}
	return list
}

// known has segments and their points.
var known = []struct {
	piece
	want []api.Point
}{
	// P134: lines.
	{piece{at(0, 0), line(10, 7)}, []api.Point{at(10, 7)}},
	{piece{at(3, 4), line(3, 4)}, []api.Point{at(3, 4)}},
	{piece{at(most, -most), line(-most, most)}, []api.Point{at(-most, most)}},
	// P132: the example of the chapter, whose points lie on the circle.
	{piece{at(100, 0), curve(100, 100, 0, 100, 181)}, []api.Point{at(98, 18), at(93, 37), at(84, 55), at(71, 71), at(55, 84), at(37, 93), at(18, 98), at(0, 100)}},
	// P132: a parabola, y = 4 x (20 - x) / 40.
	{piece{at(0, 0), curve(10, 20, 20, 0, 256)}, []api.Point{at(5, 8), at(10, 10), at(15, 8), at(20, 0)}},
	// P132: the weight 16 draws the middle towards the chord, the weight 4096 towards the control point.
	{piece{at(0, 0), curve(10, 20, 20, 0, 16)}, []api.Point{at(20, 0)}},
	{piece{at(0, 0), curve(10, 20, 20, 0, 4096)}, []api.Point{at(10, 19), at(20, 0)}},
	// P133: a curve that is a point, and one that is a straight line.
	{piece{at(7, -7), curve(7, -7, 7, -7, 256)}, []api.Point{at(7, -7)}},
	{piece{at(0, 0), curve(5, 0, 10, 0, 256)}, []api.Point{at(10, 0)}},
	{piece{at(0, 0), curve(-50, -50, -100, -100, 256)}, []api.Point{at(-100, -100)}},
	// P133: the middle (5, 1) is near enough to the line, (5, 2) is not; halves are rounded up, on both sides of it.
	{piece{at(0, 0), curve(5, 2, 10, 0, 256)}, []api.Point{at(10, 0)}},
	{piece{at(0, 0), curve(5, 3, 10, 0, 256)}, []api.Point{at(5, 2), at(10, 0)}},
	{piece{at(0, 0), curve(5, -3, 10, 0, 256)}, []api.Point{at(10, 0)}},
	{piece{at(0, 0), curve(5, -4, 10, 0, 256)}, []api.Point{at(5, -2), at(10, 0)}},
	{piece{at(0, 0), curve(2, 5, 0, 10, 256)}, []api.Point{at(0, 10)}},
	{piece{at(0, 0), curve(3, 5, 0, 10, 256)}, []api.Point{at(2, 5), at(0, 10)}},
	{piece{at(0, 0), curve(-3, 5, 0, 10, 256)}, []api.Point{at(0, 10)}},
	{piece{at(0, 0), curve(-4, 5, 0, 10, 256)}, []api.Point{at(-2, 5), at(0, 10)}},
	// P133: on the line, the middle may be 1 beside its ends, but not 2.
	{piece{at(0, 0), curve(1, 0, 0, 0, 4096)}, []api.Point{at(0, 0)}},
	{piece{at(0, 0), curve(-1, 0, 0, 0, 4096)}, []api.Point{at(0, 0)}},
	{piece{at(0, 0), curve(0, 1, 0, 0, 4096)}, []api.Point{at(0, 0)}},
	{piece{at(0, 0), curve(0, -1, 0, 0, 4096)}, []api.Point{at(0, 0)}},
	{piece{at(0, 0), curve(2, 0, 0, 0, 4096)}, []api.Point{at(2, 0), at(0, 0)}},
	{piece{at(0, 0), curve(-2, 0, 0, 0, 4096)}, []api.Point{at(-2, 0), at(0, 0)}},
	{piece{at(0, 0), curve(0, 2, 0, 0, 4096)}, []api.Point{at(0, 2), at(0, 0)}},
	{piece{at(0, 0), curve(0, -2, 0, 0, 4096)}, []api.Point{at(0, -2), at(0, 0)}},
	{piece{at(0, 0), curve(100, 0, 10, 0, 256)}, []api.Point{at(53, 0), at(10, 0)}},
}

// P132 to P134: known segments.
func TestPointsKnown(t *testing.T) {
	for _, k := range known {
		if got, e := conic.Points(k.from, k.s); e != api.OK || !slices.Equal(got, k.want) {
			t.Errorf("%v: %v, not %v: %d", k.piece, got, k.want, e)
		}
	}
}

// P132 to P134: the points at 1/n, 2/n, .. n/n, with the division n, of which each occurs.
func TestPointsOfCurves(t *testing.T) {
	counts := map[int]int{}
	for _, c := range curves() {
		n := c.division()
		counts[n]++
		got, e := conic.Points(c.from, c.s)
		if e != api.OK || len(got) != n {
			t.Errorf("%v: the division is %d, not %d: %d", c, len(got), n, e)
			continue
		}
		for k := 1; k <= n; k++ {
			if want := c.pointAt(k, n); got[k-1] != want {
				t.Errorf("%v: the point at %d/%d is %v, not %v", c, k, n, got[k-1], want)
			}
		}
	}
	for n := 1; n <= mostDivision; n *= 2 {
		if counts[n] < 5 {
			t.Errorf("%d curves have the division %d", counts[n], n)
		}
	}
}

// P133: the division is 512 also of curves that are not flat at it, and some are flat at it, but not before.
func TestMostDivision(t *testing.T) {
	for _, c := range wild {
		if got, e := conic.Points(c.from, c.s); e != api.OK || len(got) != mostDivision || c.isFlat(mostDivision) {
			t.Error(c, len(got), e)
		}
	}
	for _, c := range []piece{{at(-most, -most), curve(most, most, -most, most, 256)}, {at(-1000, -1000), curve(1000, 1000, -1000, 1000, 1024)}} {
		if got, e := conic.Points(c.from, c.s); e != api.OK || len(got) != mostDivision || !c.isFlat(mostDivision) || c.isFlat(mostDivision/2) {
			t.Error(c, len(got), e)
		}
	}
}

// P132: the weight 181/256, nearly the cosine of half a right angle, gives a quarter of a circle.
func TestCircle(t *testing.T) {
	for _, radius := range []int{10, 37, 100, 1000} {
		for _, c := range []piece{
			{at(radius, 0), curve(radius, radius, 0, radius, 181)}, {at(0, radius), curve(-radius, radius, -radius, 0, 181)},
			{at(-radius, 0), curve(-radius, -radius, 0, -radius, 181)}, {at(0, -radius), curve(radius, -radius, radius, 0, 181)},
		} {
			got, e := conic.Points(c.from, c.s)
			if e != api.OK {
				t.Fatal(c, e)
			}
			for _, q := range got {
				if d := math.Hypot(float64(q.X), float64(q.Y)) - float64(radius); math.Abs(d) > 0.75 {
					t.Errorf("%v: %v is %f beside the circle", c, q, d)
				}
			}
		}
	}
}

// P136: the points lie in the least rectangle that contains the three points of the curve, and the last one is its end.
func TestPointsWithin(t *testing.T) {
	for _, c := range curves() {
		got, e := conic.Points(c.from, c.s)
		if e != api.OK || got[len(got)-1] != at(c.s.X, c.s.Y) {
			t.Fatal(c, got, e)
		}
		left, right := min(c.from.X, c.s.U, c.s.X), max(c.from.X, c.s.U, c.s.X)
		top, bottom := min(c.from.Y, c.s.V, c.s.Y), max(c.from.Y, c.s.V, c.s.Y)
		for _, q := range got {
			if q.X < left || q.X > right || q.Y < top || q.Y > bottom {
				t.Errorf("%v: %v", c, q)
			}
		}
	}
}

// isRefused checks that Points returns an error alone.
func isRefused(t *testing.T, from api.Point, s api.Seg, want api.Errno) {
	t.Helper()
	if l, e := conic.Points(from, s); e != want || len(l) != 0 {
		t.Errorf("%v from %v: %v, %d, not %d", s, from, l, e, want)
	}
}

// P134: only lines and curves have points; this comes before all other errors.
func TestPointsKind(t *testing.T) {
	for _, kind := range []int{api.SegMove, api.SegClose, 0, 5, -1, 1<<32 + api.SegLine, math.MaxInt, math.MinInt} {
		for _, from := range []api.Point{at(0, 0), at(most+1, 0), at(0, math.MinInt)} {
			for _, s := range []api.Seg{{}, {X: 1, Y: 2}, {X: most + 1}, {U: 1}, {W: 256}, {X: 1, Y: 2, U: 3, V: 4, W: 5}} {
				s.Kind = kind
				isRefused(t, from, s, api.ErrKind)
			}
		}
	}
}

// P134: the fields of a line that have no meaning are 0; this comes before the ranges, also that of the beginning.
func TestPointsForm(t *testing.T) {
	for _, n := range []int{1, -1, 16, 256, most, most + 1, math.MaxInt, math.MinInt} {
		for _, from := range []api.Point{at(0, 0), at(most+1, 0), at(0, -most-1)} {
			for _, s := range []api.Seg{{U: n}, {V: n}, {W: n}, {X: most + 1, U: n}, {Y: math.MinInt, W: n}, {X: 1, Y: 2, U: n, V: n, W: n}} {
				s.Kind = api.SegLine
				isRefused(t, from, s, api.ErrForm)
			}
		}
	}
}

// P134: the coordinates of the segment and of its beginning, and the weight of a curve, have ranges.
func TestPointsRange(t *testing.T) {
	for _, n := range beyond {
		for _, s := range []api.Seg{line(n, 0), line(0, n), curve(n, 0, 0, 0, 256), curve(0, n, 0, 0, 256), curve(0, 0, n, 0, 256), curve(0, 0, 0, n, 256), curve(n, n, n, n, 0)} {
			isRefused(t, at(0, 0), s, api.ErrRange)
			isRefused(t, at(n, n), s, api.ErrRange)
		}
		for _, s := range []api.Seg{line(0, 0), curve(0, 0, 0, 0, 256), curve(1, 2, 3, 4, 15)} {
			isRefused(t, at(n, 0), s, api.ErrRange)
			isRefused(t, at(0, n), s, api.ErrRange)
		}
	}
	for _, w := range noWeights {
		isRefused(t, at(0, 0), curve(1, 1, 2, 2, w), api.ErrRange)
	}
}

// P134: the ends of the ranges are permitted.
func TestPointsEndsOfRanges(t *testing.T) {
	for _, n := range []int{most, -most} {
		for _, p := range []piece{
			{at(n, 0), line(0, 0)}, {at(0, n), line(0, 0)}, {at(0, 0), line(n, 0)}, {at(0, 0), line(0, n)},
			{at(n, 0), curve(0, 0, 0, 0, 256)}, {at(0, n), curve(0, 0, 0, 0, 256)}, {at(0, 0), curve(n, 0, 0, 0, leastWeight)},
			{at(0, 0), curve(0, n, 0, 0, mostWeight)}, {at(0, 0), curve(0, 0, n, 0, leastWeight)}, {at(0, 0), curve(0, 0, 0, n, mostWeight)},
			{at(n, n), curve(n, n, n, n, 256)},
		} {
			if l, e := conic.Points(p.from, p.s); e != api.OK || len(l) == 0 || l[len(l)-1] != at(p.s.X, p.s.Y) {
				t.Error(p, l, e)
			}
		}
	}
}

// P135: known paths; equal points are kept, and a SegClose adds none.
func TestFlattenKnown(t *testing.T) {
	for _, k := range []struct {
		text string
		want []api.Line
	}{
		{"", nil},
		{"m 3 4", []api.Line{{Points: []api.Point{at(3, 4)}}}},
		{"m 3 4 h", []api.Line{{Points: []api.Point{at(3, 4)}, Closed: true}}},
		{"m 3 4 m 3 4 m 5 6 h", []api.Line{{Points: []api.Point{at(3, 4)}}, {Points: []api.Point{at(3, 4)}}, {Points: []api.Point{at(5, 6)}, Closed: true}}},
		{"m 1 2 l 1 2 l 1 2 q 1 2 1 2 256 l 3 4 l 1 2 h", []api.Line{{Points: []api.Point{at(1, 2), at(1, 2), at(1, 2), at(1, 2), at(3, 4), at(1, 2)}, Closed: true}}},
		{"m 0 0 l 4 0 l 4 2 l 0 2 h m 9 9 l 8 8", []api.Line{{Points: []api.Point{at(0, 0), at(4, 0), at(4, 2), at(0, 2)}, Closed: true}, {Points: []api.Point{at(9, 9), at(8, 8)}}}},
		// A curve begins at the end of the segment before it, whatever its kind.
		{"m 0 0 q 5 3 10 0 256 q 15 -4 20 0 256 h", []api.Line{{Points: []api.Point{at(0, 0), at(5, 2), at(10, 0), at(15, -2), at(20, 0)}, Closed: true}}},
		{"m 7 7 l 0 0 q 5 3 10 0 256 l 1 1", []api.Line{{Points: []api.Point{at(7, 7), at(0, 0), at(5, 2), at(10, 0), at(1, 1)}}}},
		{"m 7 7 h m 0 0 q 5 3 10 0 256", []api.Line{{Points: []api.Point{at(7, 7)}, Closed: true}, {Points: []api.Point{at(0, 0), at(5, 2), at(10, 0)}}}},
	} {
		p, e := path.Parse(k.text)
		if e != api.OK {
			t.Fatal(k.text, e)
		}
		if got, e := conic.Flatten(p); e != api.OK || !slices.EqualFunc(got, k.want, areEqual) {
			t.Errorf("%q: %v, not %v: %d", k.text, got, k.want, e)
		}
	}
}

func areEqual(a, b api.Line) bool {
	return a.Closed == b.Closed && slices.Equal(a.Points, b.Points)
}

// P135: the lines of a path have the points of its segments, one after the other.
func TestFlatten(t *testing.T) {
	for _, p := range mixed() {
		if got, e := conic.Flatten(p); e != api.OK || !slices.EqualFunc(got, flattened(t, p), areEqual) {
			t.Errorf("%v: %v: %d", p, got, e)
		}
	}
}

// flattened returns what Flatten should return for a valid path.
func flattened(t *testing.T, p []api.Seg) []api.Line {
	t.Helper()
	var lines []api.Line
	var points []api.Point
	for i, s := range p {
		switch s.Kind {
		case api.SegMove:
			points = []api.Point{at(s.X, s.Y)}
		case api.SegLine, api.SegCurve:
			more, e := conic.Points(points[len(points)-1], s)
			if e != api.OK {
				t.Fatal(s, e)
			}
			points = append(points, more...)
		}
		if i+1 == len(p) || p[i+1].Kind == api.SegMove {
			lines = append(lines, api.Line{Points: points, Closed: s.Kind == api.SegClose})
		}
	}
	return lines
}

// P135: the error is that of path.Check.
func TestFlattenErrors(t *testing.T) {
	start := api.Seg{Kind: api.SegMove}
	shut := api.Seg{Kind: api.SegClose}
	for _, c := range []struct {
		p    []api.Seg
		want api.Errno
	}{
		{append([]api.Seg{start}, slices.Repeat([]api.Seg{line(1, 1)}, api.MaxSegs)...), api.ErrLarge},
		{make([]api.Seg, api.MaxSegs+1), api.ErrLarge},
		{[]api.Seg{{}}, api.ErrKind},
		{[]api.Seg{start, {Kind: 5}}, api.ErrKind},
		{[]api.Seg{line(1, 1)}, api.ErrOrder},
		{[]api.Seg{curve(1, 1, 2, 2, 256)}, api.ErrOrder},
		{[]api.Seg{shut}, api.ErrOrder},
		{[]api.Seg{start, shut, line(1, 1)}, api.ErrOrder},
		{[]api.Seg{start, shut, shut}, api.ErrOrder},
		{[]api.Seg{start, {Kind: api.SegLine, W: 256}}, api.ErrForm},
		{[]api.Seg{start, {Kind: api.SegClose, X: 1}}, api.ErrForm},
		{[]api.Seg{{Kind: api.SegMove, X: most + 1, U: 1}}, api.ErrForm},
		{[]api.Seg{{Kind: api.SegMove, X: most + 1}}, api.ErrRange},
		{[]api.Seg{start, line(1, 1), shut, start, line(0, math.MinInt)}, api.ErrRange},
		{[]api.Seg{start, curve(0, 0, 0, 0, leastWeight-1)}, api.ErrRange},
		{[]api.Seg{start, curve(0, 0, 0, 0, mostWeight+1), {}}, api.ErrRange},
	} {
		if e := path.Check(c.p); e != c.want {
			t.Error(c.p, e, c.want)
		}
		if got, e := conic.Flatten(c.p); e != c.want || len(got) != 0 {
			t.Error(c.p, got, e, c.want)
		}
	}
}

// P135: a path of as many segments as are permitted, each of as many points as a curve has.
func TestFlattenLongest(t *testing.T) {
	there, back := wild[0], wild[1]
	p := []api.Seg{{Kind: api.SegMove, X: there.from.X, Y: there.from.Y}}
	for len(p)+2 < api.MaxSegs {
		p = append(p, there.s, back.s)
	}
	p = append(p, api.Seg{Kind: api.SegClose})
	got, e := conic.Flatten(p)
	if e != api.OK || len(got) != 1 || !got[0].Closed || len(got[0].Points) != 1+(len(p)-2)*mostDivision {
		t.Fatal(len(p), len(got), e)
	}
	if !areEqual(got[0], flattened(t, p)[0]) {
		t.Error("not the points of the segments")
	}
}

// P2: the results of Points are equal for equal arguments, and are not shared.
func TestResultsOfPoints(t *testing.T) {
	for _, k := range known {
		first, _ := conic.Points(k.from, k.s)
		second, _ := conic.Points(k.from, k.s)
		for i := range first {
			first[i] = at(-77, 77)
		}
		if !slices.Equal(second, k.want) {
			t.Error(k.piece, second)
		}
	}
}

// P2: Flatten keeps its argument and the unused capacity of it, and neither results nor the lines of one result share memory.
func TestArgumentsAndResultsOfFlatten(t *testing.T) {
	for _, p := range mixed() {
		// Behind the path there are further segments.
		long := append(slices.Clone(p), line(7, 7), api.Seg{Kind: api.SegClose})
		before := slices.Clone(long[:cap(long)])
		first, _ := conic.Flatten(long[:len(p)])
		second, _ := conic.Flatten(long[:len(p)])
		want := flattened(t, p)
		if !slices.EqualFunc(first, want, areEqual) || !slices.EqualFunc(second, want, areEqual) {
			t.Fatal("not equal", p)
		}
		for i := range first {
			whole := first[i].Points[:cap(first[i].Points)]
			for j := range whole {
				whole[j] = at(-77, 77)
			}
			if !slices.EqualFunc(first[i+1:], want[i+1:], areEqual) {
				t.Fatal("shared by lines", p)
			}
		}
		if !slices.EqualFunc(second, want, areEqual) {
			t.Fatal("shared by results", p)
		}
		if !slices.Equal(long[:cap(long)], before) {
			t.Fatal("the argument was changed", p)
		}
	}
}
