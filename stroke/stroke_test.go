package stroke_test

import (
	"math"
	"math/big"
	"reflect"
	"slices"
	"testing"

	"printworks/api"
	"printworks/fill"
	"printworks/region"
	"printworks/stroke"
)

// The signatures are those of the chapter.
var (
	_ func(api.Stroke) api.Errno                                      = stroke.Check
	_ func(api.Line, api.Stroke) ([]api.Line, []api.Point, api.Errno) = stroke.Outline
	_ func([]api.Line, api.Stroke) ([]api.Run, api.Errno)             = stroke.Stroke
)

const (
	most  = api.MaxCell
	least = -api.MaxCell
	far   = api.MaxCoord
)

// unlikely fills the unused capacity of arguments.
var unlikely = api.Point{X: -77, Y: -77}

var (
	caps  = []int{api.CapButt, api.CapRound, api.CapSquare}
	joins = []int{api.JoinMiter, api.JoinRound, api.JoinBevel}
)

// points returns the points whose coordinates are given, first that to the right.
func points(coordinates ...int) []api.Point {
	var list []api.Point
	for i := 0; i < len(coordinates); i += 2 {
		list = append(list, api.Point{X: coordinates[i], Y: coordinates[i+1]})
	}
	return list
}

// open returns a line that is not closed.
func open(coordinates ...int) api.Line {
	return api.Line{Points: points(coordinates...)}
}

// closed returns a closed line.
func closed(coordinates ...int) api.Line {
	return api.Line{Points: points(coordinates...), Closed: true}
}

// style returns a style with butt caps, beveled joins and the limit 64.
func style(width int) api.Stroke {
	return api.Stroke{Width: width, Cap: api.CapButt, Join: api.JoinBevel, Limit: 64}
}

// model is an outline that is made as the words of the chapter say, with numbers of any size.
type model struct {
	parts []api.Line
	discs []api.Point
}

// part adds a part, with its points in the order that gives it no negative area.
func (m *model) part(list ...api.Point) {
	area := 0
	for i, q := range list {
		p := list[(i+len(list)-1)%len(list)]
		area += q.X*p.Y - p.X*q.Y
	}
	if area < 0 {
		slices.Reverse(list)
	}
	m.parts = append(m.parts, api.Line{Points: list, Closed: true})
}

// round is Round of numbers of any size.
func round(a, b *big.Int) int {
	above := new(big.Int).Add(new(big.Int).Lsh(a, 1), b)
	// Div goes to floor, since b is positive.
	return int(above.Div(above, new(big.Int).Lsh(b, 1)).Int64())
}

func product(numbers ...int) *big.Int {
	n := big.NewInt(1)
	for _, factor := range numbers {
		n.Mul(n, big.NewInt(int64(factor)))
	}
	return n
}

// vectors returns the normal and the half length of the side from p to q.
func vectors(p, q api.Point, w int) (n, e api.Point) {
	dx, dy := q.X-p.X, q.Y-p.Y
	length := product(1048576, dx*dx+dy*dy)
	length.Sqrt(length)
	n = api.Point{X: round(product(-512, w, dy), length), Y: round(product(512, w, dx), length)}
	e = api.Point{X: round(product(512, w, dx), length), Y: round(product(512, w, dy), length)}
	return n, e
}

// remaining returns the points that remain of a line.
func remaining(l api.Line) []api.Point {
	var list []api.Point
	for i, p := range l.Points {
		if i == 0 || p != l.Points[i-1] {
			list = append(list, p)
		}
	}
	for l.Closed && len(list) >= 2 && list[len(list)-1] == list[0] {
		list = list[:len(list)-1]
	}
	return list
}

// modelOf follows the words of the chapter.
func modelOf(l api.Line, s api.Stroke) model {
	var m model
	list := remaining(l)
	if len(list) == 1 {
		m.dot(list[0], s)
	}
	if len(list) < 2 {
		return m
	}
	count := len(list) - 1
	if l.Closed {
		count = len(list)
	}
	at := func(i int) api.Point { return list[i%len(list)] }
	for i := range count {
		p, q := at(i), at(i+1)
		n, _ := vectors(p, q, s.Width)
		m.part(sum(p, n, 1), sum(q, n, 1), sum(q, n, -1), sum(p, n, -1))
	}
	for i := 1; i < count || i == count && l.Closed; i++ {
		m.join(at(i-1), at(i), at(i+1), s)
	}
	if !l.Closed {
		m.caps(list, s)
	}
	return m
}

// sum returns p and k times v.
func sum(p, v api.Point, k int) api.Point {
	return api.Point{X: p.X + k*v.X, Y: p.Y + k*v.Y}
}

// join adds what is at v, where the side from u ends and that to x begins.
func (m *model) join(u, v, x api.Point, s api.Stroke) {
	if s.Join == api.JoinRound {
		m.discs = append(m.discs, v)
		return
	}
	c := (v.X-u.X)*(x.Y-v.Y) - (v.Y-u.Y)*(x.X-v.X)
	if c == 0 {
		return
	}
	sign := 1
	if c > 0 {
		sign = -1
	}
	n1, _ := vectors(u, v, s.Width)
	n2, _ := vectors(v, x, s.Width)
	q, r := n1.X*n1.X+n1.Y*n1.Y, n1.X*n2.X+n1.Y*n2.Y
	if s.Join == api.JoinBevel || q+r <= 0 || product(512, q).Cmp(product(s.Limit, s.Limit, q+r)) > 0 {
		m.part(v, sum(v, n1, sign), sum(v, n2, sign))
		return
	}
	t := api.Point{X: round(product(q, n1.X+n2.X), big.NewInt(int64(q+r))), Y: round(product(q, n1.Y+n2.Y), big.NewInt(int64(q+r)))}
	m.part(v, sum(v, n1, sign), sum(v, t, sign), sum(v, n2, sign))
}

// caps adds what is at both ends of a line that is not closed.
func (m *model) caps(list []api.Point, s api.Stroke) {
	p, q := list[0], list[len(list)-1]
	if s.Cap == api.CapRound {
		m.discs = append(m.discs, p, q)
	}
	if s.Cap == api.CapSquare {
		n, e := vectors(p, list[1], s.Width)
		m.part(sum(p, n, 1), sum(p, n, -1), sum(sum(p, n, -1), e, -1), sum(sum(p, n, 1), e, -1))
		n, e = vectors(list[len(list)-2], q, s.Width)
		m.part(sum(q, n, 1), sum(q, n, -1), sum(sum(q, n, -1), e, 1), sum(sum(q, n, 1), e, 1))
	}
}

// dot adds what there is of a line of which one point remains.
func (m *model) dot(v api.Point, s api.Stroke) {
	if s.Cap == api.CapRound {
		m.discs = append(m.discs, v)
	}
	if s.Cap == api.CapSquare {
		h := round(big.NewInt(int64(s.Width)), big.NewInt(2))
		m.part(points(v.X-h, v.Y-h, v.X-h, v.Y+h, v.X+h, v.Y+h, v.X+h, v.Y-h)...)
	}
}

// isOver tells whether a part has a coordinate that is not permitted.
func (m model) isOver() bool {
	for _, part := range m.parts {
		for _, p := range part.Points {
			if max(p.X, -p.X, p.Y, -p.Y) > far {
				return true
			}
		}
	}
	return false
}

// isOutline checks the result of Outline.
func isOutline(t *testing.T, l api.Line, s api.Stroke, want model) {
	t.Helper()
	parts, discs, e := stroke.Outline(l, s)
	if e != api.OK || len(parts)+len(want.parts) > 0 && !reflect.DeepEqual(parts, want.parts) || !slices.Equal(discs, want.discs) {
		t.Fatal(l, s, "Outline", parts, discs, e, "instead of", want)
	}
}

// cellsOf returns the cells of the strokes of lines as the words of the chapter say; no disc has cells outside of the square.
func cellsOf(l []api.Line, s api.Stroke, x0, y0, x1, y1 int) []api.Run {
	var cells []api.Point
	for _, line := range l {
		m := modelOf(line, s)
		for _, part := range m.parts {
			filled, _ := fill.Fill([]api.Line{part}, api.NonZero)
			cells = slices.AppendSeq(cells, region.Cells(filled))
		}
		for _, d := range m.discs {
			for y := max(y0, d.Y-s.Width, least); y < min(y1, d.Y+s.Width, most); y++ {
				for x := max(x0, d.X-s.Width, least); x < min(x1, d.X+s.Width, most); x++ {
					if (2*x+1-2*d.X)*(2*x+1-2*d.X)+(2*y+1-2*d.Y)*(2*y+1-2*d.Y) <= s.Width*s.Width {
						cells = append(cells, api.Point{X: x, Y: y})
					}
				}
			}
		}
	}
	r, _ := region.Of(cells)
	return r
}

// isStroke checks the result of Stroke.
func isStroke(t *testing.T, l []api.Line, s api.Stroke, want []api.Run) {
	t.Helper()
	if got, e := stroke.Stroke(l, s); e != api.OK || !slices.Equal(got, want) {
		t.Fatal(l, s, "Stroke", got, e, "instead of", want)
	}
}

// agrees checks the outlines of lines, and their stroke.
func agrees(t *testing.T, l []api.Line, s api.Stroke, x0, y0, x1, y1 int) {
	t.Helper()
	for _, line := range l {
		isOutline(t, line, s, modelOf(line, s))
	}
	isStroke(t, l, s, cellsOf(l, s, x0, y0, x1, y1))
}

// picker gives numbers that follow a fixed rule.
type picker struct{ state uint64 }

func (p *picker) below(n int) int {
	p.state = p.state*6364136223846793005 + 1442695040888963407
	return int(p.state>>33) % n
}

// between returns a number from a to b.
func (p *picker) between(a, b int) int {
	return a + p.below(b-a+1)
}

// style returns a style with a width up to the given one.
func (p *picker) style(width int) api.Stroke {
	return api.Stroke{Width: p.between(1, width), Cap: p.below(3), Join: p.below(3), Limit: p.between(16, []int{30, 100, 1024}[p.below(3)])}
}

// line returns a line with up to the given number of points in a square, some of which are repeated.
func (p *picker) line(x0, y0, x1, y1, most int) api.Line {
	var l api.Line
	for range p.below(most + 1) {
		at := api.Point{X: p.between(x0, x1), Y: p.between(y0, y1)}
		if n := len(l.Points); n > 0 && p.below(4) == 0 {
			at = l.Points[p.below(n)]
		}
		for range p.between(1, 5) / 3 {
			l.Points = append(l.Points, at)
		}
	}
	l.Closed = p.below(2) == 0
	return l
}

// lines returns up to three lines.
func (p *picker) lines(x0, y0, x1, y1, most int) []api.Line {
	var list []api.Line
	for range p.between(1, 3) {
		list = append(list, p.line(x0, y0, x1, y1, most))
	}
	return list
}

// notPermitted has numbers that no coordinate may be.
var notPermitted = []int{far + 1, -far - 1, 1 << 32, math.MaxInt, math.MinInt}

// P160: the ranges of the fields, and the order of their errors.
func TestStyles(t *testing.T) {
	good := api.Stroke{Width: 9, Cap: api.CapSquare, Join: api.JoinBevel, Limit: 160}
	with := func(change func(s *api.Stroke)) api.Stroke {
		s := good
		change(&s)
		return s
	}
	check := func(s api.Stroke, want api.Errno) {
		t.Helper()
		if e := stroke.Check(s); e != want {
			t.Error(s, e, "instead of", want)
		}
	}
	check(good, api.OK)
	check(api.Stroke{}, api.ErrRange)
	for _, n := range []int{1, 2, 16, 500, 1023, 1024} {
		check(with(func(s *api.Stroke) { s.Width = n }), api.OK)
	}
	for _, n := range []int{16, 17, 500, 1023, 1024} {
		check(with(func(s *api.Stroke) { s.Limit = n }), api.OK)
	}
	for _, n := range []int{0, -1, 1025, 1 << 32, math.MaxInt, math.MinInt} {
		check(with(func(s *api.Stroke) { s.Width = n }), api.ErrRange)
		check(with(func(s *api.Stroke) { s.Width, s.Cap, s.Join, s.Limit = n, 7, 7, 0 }), api.ErrRange)
		check(with(func(s *api.Stroke) { s.Width, s.Cap = n, 7 }), api.ErrRange)
		check(with(func(s *api.Stroke) { s.Width, s.Join = n, 7 }), api.ErrRange)
	}
	for _, n := range []int{0, -1, 15, 1025, 1 << 32, math.MaxInt, math.MinInt} {
		check(with(func(s *api.Stroke) { s.Limit = n }), api.ErrRange)
	}
	for n := range 3 {
		check(with(func(s *api.Stroke) { s.Cap = n }), api.OK)
		check(with(func(s *api.Stroke) { s.Join = n }), api.OK)
	}
	for _, n := range []int{-1, 3, 4, 1 << 32, math.MaxInt, math.MinInt} {
		check(with(func(s *api.Stroke) { s.Cap = n }), api.ErrArg)
		check(with(func(s *api.Stroke) { s.Join = n }), api.ErrArg)
		check(with(func(s *api.Stroke) { s.Cap, s.Limit = n, 0 }), api.ErrArg)
		check(with(func(s *api.Stroke) { s.Join, s.Limit = n, 1025 }), api.ErrArg)
	}
}

// isRefused checks that Outline and Stroke return an error and nothing else.
func isRefused(t *testing.T, l api.Line, s api.Stroke, want api.Errno) {
	t.Helper()
	if parts, discs, e := stroke.Outline(l, s); e != want || parts != nil || discs != nil {
		t.Error(l, s, "Outline", parts, discs, e, "instead of", want)
	}
	isStrokeRefused(t, []api.Line{l}, s, want)
}

func isStrokeRefused(t *testing.T, l []api.Line, s api.Stroke, want api.Errno) {
	t.Helper()
	if r, e := stroke.Stroke(l, s); e != want || r != nil {
		t.Error(l, s, "Stroke", len(r), e, "instead of", want)
	}
}

// P160: the error of the style comes before that of the lines, and that before all others.
func TestOrderOfErrors(t *testing.T) {
	for _, bad := range []struct {
		s api.Stroke
		e api.Errno
	}{
		{api.Stroke{Width: 0, Limit: 16}, api.ErrRange},
		{api.Stroke{Width: 1025, Cap: 3, Limit: 16}, api.ErrRange},
		{api.Stroke{Width: 1, Cap: 3, Limit: 0}, api.ErrArg},
		{api.Stroke{Width: 1, Join: -1, Limit: 16}, api.ErrArg},
		{api.Stroke{Width: 1, Limit: 15}, api.ErrRange},
	} {
		for _, l := range []api.Line{{}, open(0, 0), open(0, 0, 9, 9), open(far, 0, far, 9), closed(0, far+1, 4, 4)} {
			isRefused(t, l, bad.s, bad.e)
		}
		isStrokeRefused(t, nil, bad.s, bad.e)
	}
	over := open(far, 0, far, 9)
	isRefused(t, over, style(4), api.ErrOver)
	for _, n := range notPermitted {
		for _, l := range []api.Line{open(n, 0), open(0, n), closed(0, 0, 4, n, 4, 4), open(far, 0, far, 9, n, 9)} {
			isRefused(t, l, style(4), api.ErrRange)
			isStrokeRefused(t, []api.Line{{}, open(0, 0, 9, 9), l}, style(4), api.ErrRange)
			isStrokeRefused(t, []api.Line{over, l}, style(4), api.ErrRange)
			isStrokeRefused(t, []api.Line{l, over}, style(4), api.ErrRange)
		}
	}
	isStrokeRefused(t, []api.Line{open(0, 0, 9, 9), over, open(0, 0)}, style(4), api.ErrOver)
}

// P161: points that are equal to the point before them make no difference, nor do those at the end of a closed line that are equal to the first one.
func TestEqualPoints(t *testing.T) {
	for _, c := range [][2]api.Line{
		{open(0, 0, 0, 0, 9, 0, 9, 0, 9, 0, 9, 7, 9, 7), open(0, 0, 9, 0, 9, 7)},
		{closed(0, 0, 0, 0, 9, 0, 9, 0, 9, 7, 9, 7), closed(0, 0, 9, 0, 9, 7)},
		{closed(0, 0, 9, 0, 9, 7, 0, 0), closed(0, 0, 9, 0, 9, 7)},
		{closed(0, 0, 9, 0, 9, 7, 0, 0, 0, 0, 0, 0), closed(0, 0, 9, 0, 9, 7)},
		{closed(0, 0, 0, 0, 9, 0, 0, 0, 0, 0), closed(0, 0, 9, 0)},
		{open(4, 5, 4, 5, 4, 5), open(4, 5)},
		{closed(4, 5, 4, 5, 4, 5), closed(4, 5)},
		{closed(4, 5), open(4, 5)},
		{closed(), open()},
	} {
		for _, end := range caps {
			for _, join := range joins {
				s := api.Stroke{Width: 4, Cap: end, Join: join, Limit: 64}
				isOutline(t, c[0], s, modelOf(c[1], s))
				isStroke(t, []api.Line{c[0]}, s, cellsOf(c[1:], s, -20, -20, 30, 30))
			}
		}
	}
}

// P161: the sides of lines. An equal point that is neither next to the other one nor at the end of a closed line stays.
func TestSides(t *testing.T) {
	for _, c := range []struct {
		l     api.Line
		sides []api.Line
	}{
		{open(), nil},
		{open(3, 3), nil},
		{open(0, 0, 10, 0), []api.Line{closed(0, 2, 10, 2, 10, -2, 0, -2)}},
		{closed(0, 0, 10, 0), []api.Line{closed(0, 2, 10, 2, 10, -2, 0, -2), closed(10, -2, 0, -2, 0, 2, 10, 2)}},
		{open(0, 0, 10, 0, 0, 0), []api.Line{closed(0, 2, 10, 2, 10, -2, 0, -2), closed(10, -2, 0, -2, 0, 2, 10, 2)}},
		{closed(0, 0, 10, 0, 20, 0), []api.Line{closed(0, 2, 10, 2, 10, -2, 0, -2), closed(10, 2, 20, 2, 20, -2, 10, -2), closed(20, -2, 0, -2, 0, 2, 20, 2)}},
		{open(0, 0, 0, 10), []api.Line{closed(-2, 0, -2, 10, 2, 10, 2, 0)}},
		{open(0, 10, 0, 0), []api.Line{closed(2, 10, 2, 0, -2, 0, -2, 10)}},
		{open(0, 0, 30, 40), []api.Line{closed(-2, 1, 28, 41, 32, 39, 2, -1)}},
	} {
		isOutline(t, c.l, style(4), model{parts: c.sides})
	}
}

// first returns the normal of the first side of a line, from whose beginning it leads.
func first(t *testing.T, l api.Line, w int) api.Point {
	t.Helper()
	parts, _, e := stroke.Outline(l, style(w))
	if e != api.OK || len(parts) == 0 || len(parts[0].Points) != 4 || !parts[0].Closed {
		t.Fatal(l, w, parts, e)
	}
	p, q := l.Points[0], l.Points[1]
	n := sum(parts[0].Points[0], p, -1)
	if !slices.Equal(parts[0].Points, []api.Point{sum(p, n, 1), sum(q, n, 1), sum(q, n, -1), sum(p, n, -1)}) {
		t.Fatal(l, w, parts[0])
	}
	return n
}

// isNormal checks the normal of a side, which is nearly half the width long.
func isNormal(t *testing.T, p, q api.Point, w int) {
	t.Helper()
	n := first(t, api.Line{Points: []api.Point{p, q}}, w)
	if want, _ := vectors(p, q, w); n != want {
		t.Fatal(p, q, w, n, "instead of", want)
	}
	dx, dy := float64(q.X-p.X), float64(q.Y-p.Y)
	length := math.Hypot(dx, dy)
	x, y := -dy/length*float64(w)/2, dx/length*float64(w)/2
	if math.Abs(float64(n.X)-x) > 1 || math.Abs(float64(n.Y)-y) > 1 {
		t.Fatal(p, q, w, n, "instead of", x, y)
	}
}

// P162 and P167: the normals of all short sides, for all widths of one of them, and of sides of any length.
func TestNormals(t *testing.T) {
	p := picker{1}
	for dy := -12; dy <= 12; dy++ {
		for dx := -12; dx <= 12; dx++ {
			if dx == 0 && dy == 0 {
				continue
			}
			for _, w := range []int{1, 2, 3, 4, 5, 10, 25, 64, 101, 1023, 1024} {
				isNormal(t, api.Point{X: 7, Y: -9}, api.Point{X: 7 + dx, Y: -9 + dy}, w)
			}
		}
	}
	for w := 1; w <= api.MaxWidth; w++ {
		isNormal(t, api.Point{}, api.Point{X: 3, Y: -1}, w)
		isNormal(t, api.Point{}, api.Point{X: -1}, w)
		isNormal(t, api.Point{}, api.Point{Y: 1}, w)
	}
	for range 20000 {
		end := far - 1000
		isNormal(t, api.Point{X: p.between(-end, end), Y: p.between(-end, end)}, api.Point{X: p.between(-end, end), Y: p.between(-end, end)}, p.between(1, api.MaxWidth))
	}
	isNormal(t, api.Point{X: -far, Y: -far + 512}, api.Point{X: far, Y: -far + 512}, api.MaxWidth)
	isNormal(t, api.Point{X: far - 512, Y: far}, api.Point{X: far - 512, Y: -far}, api.MaxWidth)
	isNormal(t, api.Point{X: far - 512, Y: far - 512}, api.Point{X: 512 - far, Y: 512 - far}, api.MaxWidth)
}

// P162: halves are rounded up, so that the normals of opposite sides may differ.
func TestHalves(t *testing.T) {
	for _, c := range []struct {
		l    api.Line
		w    int
		want api.Point
	}{
		{open(0, 0, 10, 0), 1, api.Point{Y: 1}},
		{open(10, 0, 0, 0), 1, api.Point{}},
		{open(0, 0, 0, 10), 1, api.Point{}},
		{open(0, 10, 0, 0), 1, api.Point{X: 1}},
		{open(0, 0, 10, 0), 5, api.Point{Y: 3}},
		{open(10, 0, 0, 0), 5, api.Point{Y: -2}},
		{open(0, 0, 3, 4), 5, api.Point{X: -2, Y: 2}},
		{open(0, 0, 4, 3), 5, api.Point{X: -1, Y: 2}},
		{open(0, 0, 3, 4), 10, api.Point{X: -4, Y: 3}},
		{open(0, 0, -3, 4), 1000, api.Point{X: -400, Y: -300}},
	} {
		if n := first(t, c.l, c.w); n != c.want {
			t.Error(c.l, c.w, n, "instead of", c.want)
		}
	}
}

// partsAfterSides returns the parts of an outline that follow those of its sides.
func partsAfterSides(t *testing.T, l api.Line, s api.Stroke) []api.Line {
	t.Helper()
	parts, _, e := stroke.Outline(l, s)
	sides := len(modelOf(l, api.Stroke{Width: s.Width, Cap: api.CapButt, Join: api.JoinRound}).parts)
	if e != api.OK || len(parts) < sides {
		t.Fatal(l, s, parts, e)
	}
	return parts[sides:]
}

func sameLine(a, b api.Line) bool {
	return a.Closed == b.Closed && slices.Equal(a.Points, b.Points)
}

// P163 and P165: what is at an angle, on its outer side, with its points in the order that gives it an area.
func TestJoins(t *testing.T) {
	right, left := open(0, 0, 10, 0, 10, 10), open(0, 0, 10, 0, 10, -10)
	sharp := open(0, 0, 100, 0, 20, 60)
	for _, c := range []struct {
		l    api.Line
		s    api.Stroke
		want []api.Line
	}{
		{right, api.Stroke{Width: 4, Join: api.JoinBevel, Limit: 1024}, []api.Line{closed(12, 0, 10, -2, 10, 0)}},
		{left, api.Stroke{Width: 4, Join: api.JoinBevel, Limit: 1024}, []api.Line{closed(10, 0, 10, 2, 12, 0)}},
		{right, api.Stroke{Width: 4, Join: api.JoinMiter, Limit: 64}, []api.Line{closed(12, 0, 12, -2, 10, -2, 10, 0)}},
		{left, api.Stroke{Width: 4, Join: api.JoinMiter, Limit: 64}, []api.Line{closed(10, 0, 10, 2, 12, 2, 12, 0)}},
		{right, api.Stroke{Width: 4, Join: api.JoinRound, Limit: 64}, nil},
		// The normals (0, 5) and (-3, -4) have the products q = 25 and r = -20, so that the tip is at 5 (-3, 1).
		{sharp, api.Stroke{Width: 10, Join: api.JoinMiter, Limit: 51}, []api.Line{closed(103, 4, 115, -5, 100, -5, 100, 0)}},
		{sharp, api.Stroke{Width: 10, Join: api.JoinMiter, Limit: 50}, []api.Line{closed(103, 4, 100, -5, 100, 0)}},
		// straight on, and back
		{open(0, 0, 10, 0, 20, 0), api.Stroke{Width: 4, Join: api.JoinMiter, Limit: 64}, nil},
		{open(0, 0, 10, 0, 20, 0), api.Stroke{Width: 4, Join: api.JoinBevel, Limit: 64}, nil},
		{open(0, 0, 10, 0, 2, 0), api.Stroke{Width: 4, Join: api.JoinMiter, Limit: 1024}, nil},
		{open(0, 0, 10, 0, 2, 0), api.Stroke{Width: 4, Join: api.JoinBevel, Limit: 64}, nil},
		{closed(0, 0, 10, 0), api.Stroke{Width: 4, Join: api.JoinMiter, Limit: 1024}, nil},
	} {
		if got := partsAfterSides(t, c.l, c.s); !slices.EqualFunc(got, c.want, sameLine) {
			t.Error(c.l, c.s, got, "instead of", c.want)
		}
		isOutline(t, c.l, c.s, modelOf(c.l, c.s))
	}
}

// P163: with JoinRound there are discs also where a line goes straight on or back.
func TestRoundJoins(t *testing.T) {
	s := api.Stroke{Width: 4, Cap: api.CapButt, Join: api.JoinRound, Limit: 64}
	for _, c := range []struct {
		l    api.Line
		want []api.Point
	}{
		{open(0, 0, 10, 0), nil},
		{open(0, 0, 10, 0, 20, 0, 5, 0, 5, 9), points(10, 0, 20, 0, 5, 0)},
		{closed(0, 0, 10, 0), points(10, 0, 0, 0)},
		{closed(0, 0, 10, 0, 10, 10, 0, 0), points(10, 0, 10, 10, 0, 0)},
		{closed(0, 0), nil},
	} {
		if parts, discs, e := stroke.Outline(c.l, s); e != api.OK || !slices.Equal(discs, c.want) || len(parts) != len(modelOf(c.l, s).parts) {
			t.Error(c.l, parts, discs, e, "instead of", c.want)
		}
	}
}

// P163: the limit of miters, at its bounds.
func TestLimits(t *testing.T) {
	corners := func(l api.Line, width, limit int) int {
		t.Helper()
		s := api.Stroke{Width: width, Join: api.JoinMiter, Limit: limit}
		isOutline(t, l, s, modelOf(l, s))
		parts := partsAfterSides(t, l, s)
		if len(parts) != 1 {
			t.Fatal(l, s, parts)
		}
		return len(parts[0].Points)
	}
	for _, c := range []struct {
		l     api.Line
		width int
		least int // the least limit with which there is a miter
	}{
		// q is equal to r: 512 q = 16 16 (q + r)
		{open(0, 0, 100, 0, 10000, 1), 20, 16},
		{open(0, 0, 100, 0, 10000, -1), 20, 16},
		// r is 0
		{open(0, 0, 100, 0, 100, 100), 20, 23},
		{open(0, 0, 100, 0, 100, -100), 20, 23},
		// The normals are (0, 10) and (-9, -5): 512 q = 32 32 (q + r).
		{open(0, 0, 100, 0, 50, 87), 20, 32},
		// q is 100 and r is -70.
		{open(0, 0, 100, 0, 50, 50), 20, 42},
		// The normals are (0, 512) and (-64, -508): 512 q = 256 256 (q + r).
		{open(0, 0, 1000, 0, 0, 126), 1024, 256},
		// The normals are (0, 512) and (-32, -511): 512 q = 512 512 (q + r).
		{open(0, 0, 8000, 0, 0, 500), 1024, 512},
		// The normals are (0, 1) and (0, 0).
		{open(0, 0, 20, 0, 40, 20), 1, 23},
		// The normals are (0, 500) and (-22, -500): q + r is 0.
		{open(0, 0, 8000, 0, 0, 350), 1000, 1025},
	} {
		if c.least > 16 && corners(c.l, c.width, c.least-1) != 3 {
			t.Error(c, "is mitered too early")
		}
		if c.least <= 1024 && corners(c.l, c.width, c.least) != 4 {
			t.Error(c, "is not mitered")
		}
		if c.least <= 1024 && corners(c.l, c.width, 1024) != 4 {
			t.Error(c, "is not mitered with the greatest limit")
		}
	}
}

// P163: where q + r is not greater than 0 there is no miter, whatever the limit is.
func TestNoMiter(t *testing.T) {
	for _, c := range []struct {
		l     api.Line
		width int
		want  api.Line
	}{
		// The normals are (0, 2) and (0, -2): q + r is 0.
		{open(0, 0, 100, 0, 0, 1), 4, closed(100, 0, 100, -2, 100, 2)},
		// The normals are (0, -2) and (0, 3): q + r is -2.
		{open(10000, 0, 0, 0, 10000, 1), 5, closed(0, 0, 0, -2, 0, 3)},
		// The normals are (0, 0) and (1, 0).
		{open(100, 0, 0, 0, 0, -100), 1, closed(0, 0, 0, 0, -1, 0)},
	} {
		for _, limit := range []int{16, 64, 1024} {
			s := api.Stroke{Width: c.width, Join: api.JoinMiter, Limit: limit}
			if got := partsAfterSides(t, c.l, s); len(got) != 1 || !sameLine(got[0], c.want) {
				t.Error(c.l, s, got, "instead of", c.want)
			}
		}
	}
}

// P164 and P165: the ends of lines.
func TestCaps(t *testing.T) {
	for _, c := range []struct {
		l     api.Line
		parts []api.Line
	}{
		{open(0, 0, 10, 0), []api.Line{closed(0, 2, 0, -2, -2, -2, -2, 2), closed(12, 2, 12, -2, 10, -2, 10, 2)}},
		{open(10, 0, 0, 0), []api.Line{closed(10, -2, 10, 2, 12, 2, 12, -2), closed(-2, -2, -2, 2, 0, 2, 0, -2)}},
		{open(0, 0, 0, 10), []api.Line{closed(-2, 0, 2, 0, 2, -2, -2, -2), closed(-2, 12, 2, 12, 2, 10, -2, 10)}},
		{open(0, 0, 3, 4), []api.Line{closed(-2, 1, 2, -1, 1, -3, -3, -1), closed(2, 7, 6, 5, 5, 3, 1, 5)}},
		{closed(0, 0, 10, 0), nil},
		{closed(0, 0, 10, 0, 10, 10), nil},
	} {
		for _, end := range caps {
			s := api.Stroke{Width: 4, Cap: end, Join: api.JoinRound, Limit: 64}
			parts := partsAfterSides(t, c.l, s)
			if end != api.CapSquare && len(parts) != 0 || end == api.CapSquare && !slices.EqualFunc(parts, c.parts, sameLine) {
				t.Error(c.l, s, parts, "instead of", c.parts)
			}
		}
	}
	for _, l := range []api.Line{open(0, 0, 10, 0), open(7, 5, 10, 0)} {
		s := api.Stroke{Width: 4, Cap: api.CapRound, Join: api.JoinBevel, Limit: 64}
		if _, discs, e := stroke.Outline(l, s); e != api.OK || !slices.Equal(discs, l.Points) {
			t.Error(l, discs, e)
		}
	}
}

// P164: lines of which one point remains, and lines without points.
func TestDots(t *testing.T) {
	for _, c := range []struct {
		width int
		want  api.Line
	}{
		{1, closed(4, 4, 4, 6, 6, 6, 6, 4)},
		{2, closed(4, 4, 4, 6, 6, 6, 6, 4)},
		{3, closed(3, 3, 3, 7, 7, 7, 7, 3)},
		{4, closed(3, 3, 3, 7, 7, 7, 7, 3)},
		{1023, closed(-507, -507, -507, 517, 517, 517, 517, -507)},
		{1024, closed(-507, -507, -507, 517, 517, 517, 517, -507)},
	} {
		for _, l := range []api.Line{open(5, 5), closed(5, 5), open(5, 5, 5, 5), closed(5, 5, 5, 5, 5, 5)} {
			for _, join := range joins {
				s := api.Stroke{Width: c.width, Join: join, Limit: 64}
				isOutline(t, l, s, model{})
				isStroke(t, []api.Line{l}, s, nil)
				s.Cap = api.CapRound
				isOutline(t, l, s, model{discs: points(5, 5)})
				s.Cap = api.CapSquare
				isOutline(t, l, s, model{parts: []api.Line{c.want}})
				box, _ := region.Rectangle(c.want.Points[0].X, c.want.Points[0].Y, c.want.Points[2].X, c.want.Points[2].Y)
				isStroke(t, []api.Line{l}, s, box)
			}
		}
	}
	for _, end := range caps {
		for _, l := range []api.Line{{}, {Closed: true}, {Points: []api.Point{}}} {
			s := api.Stroke{Width: 9, Cap: end, Limit: 64}
			isOutline(t, l, s, model{})
			isStroke(t, []api.Line{l, l}, s, nil)
			isStroke(t, nil, s, nil)
			isStroke(t, []api.Line{}, s, nil)
		}
	}
}

// P165: sides come first, then joins, then caps; the joins of a closed line begin with the second point.
func TestOrderOfParts(t *testing.T) {
	s := api.Stroke{Width: 4, Cap: api.CapSquare, Join: api.JoinBevel, Limit: 64}
	isOutline(t, open(0, 0, 10, 0, 10, 10, 20, 10), s, model{parts: []api.Line{
		closed(0, 2, 10, 2, 10, -2, 0, -2),
		closed(8, 0, 8, 10, 12, 10, 12, 0),
		closed(10, 12, 20, 12, 20, 8, 10, 8),
		closed(12, 0, 10, -2, 10, 0),
		closed(10, 10, 8, 10, 10, 12),
		closed(0, 2, 0, -2, -2, -2, -2, 2),
		closed(22, 12, 22, 8, 20, 8, 20, 12),
	}})
	isOutline(t, closed(0, 0, 10, 0, 10, 10), s, model{parts: []api.Line{
		closed(0, 2, 10, 2, 10, -2, 0, -2),
		closed(8, 0, 8, 10, 12, 10, 12, 0),
		closed(11, 9, 1, -1, -1, 1, 9, 11),
		closed(12, 0, 10, -2, 10, 0),
		closed(9, 11, 12, 10, 10, 10),
		closed(0, -2, -1, 1, 0, 0),
	}})
	s.Cap, s.Join = api.CapRound, api.JoinRound
	isOutline(t, open(0, 0, 10, 0, 10, 10, 20, 10), s, model{
		parts: []api.Line{closed(0, 2, 10, 2, 10, -2, 0, -2), closed(8, 0, 8, 10, 12, 10, 12, 0), closed(10, 12, 20, 12, 20, 8, 10, 8)},
		discs: points(10, 0, 10, 10, 0, 0, 20, 10),
	})
	isOutline(t, closed(0, 0, 10, 0, 10, 10), s, model{
		parts: []api.Line{closed(0, 2, 10, 2, 10, -2, 0, -2), closed(8, 0, 8, 10, 12, 10, 12, 0), closed(11, 9, 1, -1, -1, 1, 9, 11)},
		discs: points(10, 0, 10, 10, 0, 0),
	})
}

// P162 to P165: outlines of lines of any size, in any style.
func TestOutlines(t *testing.T) {
	p := picker{2}
	for i := range 30000 {
		side := []int{2, 9, 60, 1000, far - 600}[i%5]
		l, s := p.line(-side, -side, side, side, 8), p.style([]int{6, 60, 1024}[p.below(3)])
		want := modelOf(l, s)
		if want.isOver() {
			isRefused(t, l, s, api.ErrOver)
			continue
		}
		isOutline(t, l, s, want)
		for _, part := range want.parts {
			if area, e := fill.Area2([]api.Line{part}); area < 0 || e != api.OK {
				t.Fatal(l, s, part, area)
			}
		}
	}
}

// turned returns a line that is turned by k quarters around the origin.
func turned(l api.Line, k int) api.Line {
	result := api.Line{Closed: l.Closed, Points: slices.Clone(l.Points)}
	for i, p := range l.Points {
		for range k {
			p = api.Point{X: -p.Y, Y: p.X}
		}
		result.Points[i] = p
	}
	return result
}

// P165: a part may have the greatest coordinates, but no greater ones, be it that of a side, of a join, of a cap or of a single point. The centres of discs may be at the end.
func TestOver(t *testing.T) {
	for k := range 4 {
		for _, c := range []struct {
			l api.Line
			s api.Stroke
			e api.Errno
		}{
			{open(far-2, 0, far-2, 99), style(4), api.OK},
			{open(far-1, 0, far-1, 99), style(4), api.ErrOver},
			{open(far, 0, far, 99), style(4), api.ErrOver},
			{closed(far-1, 0, far-1, 99), style(4), api.ErrOver},
			{open(0, 0, far, 0), style(4), api.OK},
			{open(0, 0, far-2, 0), api.Stroke{Width: 4, Cap: api.CapSquare, Limit: 64}, api.OK},
			{open(0, 0, far-1, 0), api.Stroke{Width: 4, Cap: api.CapSquare, Limit: 64}, api.ErrOver},
			{open(far-2, 0, 0, 0), api.Stroke{Width: 4, Cap: api.CapSquare, Limit: 64}, api.OK},
			{open(far-1, 0, 0, 0), api.Stroke{Width: 4, Cap: api.CapSquare, Limit: 64}, api.ErrOver},
			{open(0, 0, far, 0), api.Stroke{Width: 4, Cap: api.CapRound, Limit: 64}, api.OK},
			{open(far-2, 9), api.Stroke{Width: 4, Cap: api.CapSquare, Limit: 64}, api.OK},
			{open(far-1, 9), api.Stroke{Width: 4, Cap: api.CapSquare, Limit: 64}, api.ErrOver},
			{closed(far-2, 9), api.Stroke{Width: 3, Cap: api.CapSquare, Limit: 64}, api.OK},
			{closed(far-1, 9), api.Stroke{Width: 3, Cap: api.CapSquare, Limit: 64}, api.ErrOver},
			{open(far, far), api.Stroke{Width: 1024, Cap: api.CapRound, Limit: 64}, api.OK},
			{open(far, -far), api.Stroke{Width: 1024, Cap: api.CapButt, Limit: 64}, api.OK},
			// The tip of the miter is farther out than the rest.
			{open(0, 0, far-23, 0, far-1023, 1000), api.Stroke{Width: 20, Join: api.JoinMiter, Limit: 42}, api.OK},
			{open(0, 0, far-22, 0, far-1022, 1000), api.Stroke{Width: 20, Join: api.JoinMiter, Limit: 42}, api.ErrOver},
			{open(0, 0, far-22, 0, far-1022, 1000), api.Stroke{Width: 20, Join: api.JoinMiter, Limit: 41}, api.OK},
			{open(0, 0, far-22, 0, far-1022, 1000), api.Stroke{Width: 20, Join: api.JoinRound, Limit: 42}, api.OK},
		} {
			l := turned(c.l, k)
			_, _, e := stroke.Outline(l, c.s)
			if e != c.e {
				t.Error(l, c.s, e, "instead of", c.e)
			}
			if _, e := stroke.Stroke([]api.Line{open(0, 0, 9, 9), l}, c.s); e != c.e {
				t.Error(l, c.s, e, "instead of", c.e)
			}
			if c.e != api.OK {
				isRefused(t, l, c.s, c.e)
			}
		}
	}
}

// The example of the chapter, and the other strokes of this line.
func TestExample(t *testing.T) {
	bar := []api.Line{open(0, 0, 10, 0)}
	if n := first(t, bar[0], 4); n != (api.Point{Y: 2}) {
		t.Error(n)
	}
	box, _ := region.Rectangle(0, -2, 10, 2)
	isStroke(t, bar, api.Stroke{Width: 4, Limit: 16}, box)
	box, _ = region.Rectangle(-2, -2, 12, 2)
	isStroke(t, bar, api.Stroke{Width: 4, Cap: api.CapSquare, Limit: 16}, box)
	isStroke(t, bar, api.Stroke{Width: 4, Cap: api.CapRound, Limit: 16}, []api.Run{{Y: -2, X0: -1, X1: 11}, {Y: -1, X0: -2, X1: 12}, {Y: 0, X0: -2, X1: 12}, {Y: 1, X0: -1, X1: 11}})
}

// P166: the discs of all small widths and of great ones.
func TestDiscs(t *testing.T) {
	widths := []int{127, 128, 129, 255, 256, 511, 512, 1000, 1023, 1024}
	for w := range 70 {
		widths = append(widths, w+1)
	}
	for _, w := range widths {
		s := api.Stroke{Width: w, Cap: api.CapRound, Limit: 64}
		for _, v := range []api.Point{{}, {X: 300, Y: -2000}} {
			l := []api.Line{{Points: []api.Point{v}}}
			isStroke(t, l, s, cellsOf(l, s, v.X-w, v.Y-w, v.X+w, v.Y+w))
		}
	}
	isStroke(t, []api.Line{open(3, 3)}, api.Stroke{Width: 1, Cap: api.CapRound, Limit: 64}, nil)
	isStroke(t, []api.Line{open(3, 3)}, api.Stroke{Width: 2, Cap: api.CapRound, Limit: 64}, []api.Run{{Y: 2, X0: 2, X1: 4}, {Y: 3, X0: 2, X1: 4}})
}

// P166: strokes of lines in any style, also of short sides with great widths.
func TestStrokes(t *testing.T) {
	p := picker{3}
	for i := range 6000 {
		side, width := []int{2, 5, 12, 30}[i%4], []int{3, 8, 20}[p.below(3)]
		end := side + 100
		s := p.style(width)
		l := p.lines(-side, -side, side, side, 6)
		agrees(t, l, s, -end, -end, end, end)
	}
}

// P166: only permitted cells, of lines that are partly or wholly beside them.
func TestStrokesAtEnds(t *testing.T) {
	p := picker{4}
	ends := []int{least, 0, most}
	for _, y := range ends {
		for _, x := range ends {
			for range 60 {
				s := p.style(20)
				agrees(t, p.lines(x-20, y-20, x+20, y+20, 5), s, x-50, y-50, x+50, y+50)
			}
		}
	}
	round := api.Stroke{Width: 1024, Cap: api.CapRound, Join: api.JoinRound, Limit: 64}
	for _, v := range []api.Point{{X: most}, {X: least}, {Y: most}, {Y: least}, {X: most + 511}, {X: most + 512}, {X: least - 511}, {Y: most + 511}, {Y: most + 512, X: least}, {Y: least - 511}, {X: most + 512}, {X: 2 * most}, {X: 2*most + 1}, {Y: 2*least - 1}, {X: far, Y: far}, {X: -far, Y: -far}, {X: 9, Y: far}, {X: -far, Y: 9}} {
		l := []api.Line{{Points: []api.Point{v}}}
		isStroke(t, l, round, cellsOf(l, round, v.X-600, v.Y-600, v.X+600, v.Y+600))
	}
	all, _ := region.Rectangle(least, 100, most, 200)
	isStroke(t, []api.Line{open(-far, 150, far, 150)}, style(100), all)
	all, _ = region.Rectangle(-50, least, 50, most)
	isStroke(t, []api.Line{open(0, far, 0, -far)}, style(100), all)
	isStroke(t, []api.Line{open(most+50, 0, most+50, 9), open(far-50, far-50, 9000, far-50), closed(0, -9000, 9, -9000)}, style(100), nil)
}

// P166: the cells of each part count, although the lines lead different ways or cover each other.
func TestUnion(t *testing.T) {
	bar, back := open(0, 0, 10, 0), open(10, 0, 0, 0)
	box, _ := region.Rectangle(0, -2, 10, 2)
	for _, l := range [][]api.Line{{bar, back}, {bar, bar}, {back, bar, back}, {closed(0, 0, 10, 0)}, {open(0, 0, 10, 0, 0, 0, 10, 0)}, {{}, bar, {}, open(5, 0)}} {
		isStroke(t, l, style(4), box)
	}
	isStroke(t, []api.Line{bar, open(20, 0, 25, 0), open(10, 0, 12, 0)}, style(2), []api.Run{{Y: -1, X0: 0, X1: 12}, {Y: -1, X0: 20, X1: 25}, {Y: 0, X0: 0, X1: 12}, {Y: 0, X0: 20, X1: 25}})
	cross := union(box, 3, -10, 7, 10)
	isStroke(t, []api.Line{bar, open(5, -5, 5, -10, 5, 10)}, style(4), cross)
	isStroke(t, []api.Line{open(5, 10, 5, -10), back}, style(4), cross)
}

// union returns the union of a region and a rectangle.
func union(r []api.Run, x0, y0, x1, y1 int) []api.Run {
	box, _ := region.Rectangle(x0, y0, x1, y1)
	r, _ = region.Union(r, box)
	return r
}

// P166: many lines at once.
func TestManyLines(t *testing.T) {
	var l []api.Line
	var want []api.Run
	for _, y := range []int{-40, 40} {
		for x := least; x < most; x += 8 {
			l = append(l, open(x, y+3, x+5, y+3))
			for row := range 6 {
				want = append(want, api.Run{Y: y + row, X0: x, X1: x + 5})
			}
		}
	}
	slices.SortFunc(want, func(a, b api.Run) int { return (a.Y-b.Y)*100000 + a.X0 - b.X0 })
	isStroke(t, l, style(6), want)
	slices.Reverse(l)
	isStroke(t, l, style(6), want)
	var dots []api.Point
	for x := least; x < most; x++ {
		dots = append(dots, api.Point{X: x, Y: x}, api.Point{X: x + 1, Y: x})
	}
	s := api.Stroke{Width: 2, Cap: api.CapRound, Join: api.JoinRound, Limit: 64}
	r, e := stroke.Stroke([]api.Line{{Points: dots}}, s)
	if n, _ := region.Area(r); e != api.OK || n < 4*most || n > 12*most {
		t.Error(n, e)
	}
}

// distance returns how far a point is from a line.
func distance(l api.Line, x, y float64) float64 {
	list := l.Points
	if l.Closed {
		list = append(slices.Clone(list), list[0])
	}
	nearest := math.Inf(1)
	for i, q := range list {
		p := list[max(i-1, 0)]
		dx, dy := float64(q.X-p.X), float64(q.Y-p.Y)
		u, v := x-float64(p.X), y-float64(p.Y)
		along := 0.0
		if dx != 0 || dy != 0 {
			along = max(0, min(1, (u*dx+v*dy)/(dx*dx+dy*dy)))
		}
		nearest = min(nearest, math.Hypot(u-along*dx, v-along*dy))
	}
	return nearest
}

// isNear checks that a cell is in a round stroke if it is near a line, and is not if it is far from all lines.
func isNear(t *testing.T, l []api.Line, w int, r []api.Run, x, y int) {
	t.Helper()
	nearest := math.Inf(1)
	for _, line := range l {
		if len(line.Points) > 0 {
			nearest = min(nearest, distance(line, float64(x)+0.5, float64(y)+0.5))
		}
	}
	inside := has(r, x, y)
	if nearest <= float64(w)/2-2 && w >= 8 && !inside || nearest > float64(w)/2+2+1e-6 && inside {
		t.Fatal(l, w, x, y, nearest, inside)
	}
}

// has tells whether a region has a cell.
func has(r []api.Run, x, y int) bool {
	for i, found := slices.BinarySearchFunc(r, y, func(run api.Run, y int) int { return run.Y - y }); found && i < len(r) && r[i].Y == y; i++ {
		if r[i].X0 <= x && x < r[i].X1 {
			return true
		}
	}
	return false
}

// P167 and P856: round strokes are what lies near the lines.
func TestNearCells(t *testing.T) {
	p := picker{5}
	for i := range 300 {
		side, w := []int{4, 20, 50}[i%3], p.between(1, 40)
		l := p.lines(-side, -side, side, side, 5)
		r, e := stroke.Stroke(l, api.Stroke{Width: w, Cap: api.CapRound, Join: api.JoinRound, Limit: 16})
		if e != api.OK {
			t.Fatal(l, w, e)
		}
		for y := -side - 30; y < side+30; y++ {
			for x := -side - 30; x < side+30; x++ {
				isNear(t, l, w, r, x, y)
			}
		}
	}
}

// P167: long lines and great widths, with the permitted cells that are about half the width away from a point of a line.
func TestNearCellsOfLongLines(t *testing.T) {
	p := picker{6}
	for range 60 {
		l, w := p.lines(least, least, most, most, 5), p.between(8, api.MaxWidth)
		r, e := stroke.Stroke(l, api.Stroke{Width: w, Cap: api.CapRound, Join: api.JoinRound, Limit: 16})
		if e != api.OK {
			t.Fatal(l, w, e)
		}
		for _, line := range l {
			for i := range line.Points {
				a, b := line.Points[i], line.Points[(i+1)%len(line.Points)]
				for range 300 {
					along, away, around := float64(p.below(1001))/1000, float64(w)/2+float64(p.between(-40, 40))/10, float64(p.below(6284))/1000
					x := int(math.Floor(float64(a.X) + along*float64(b.X-a.X) + away*math.Cos(around)))
					y := int(math.Floor(float64(a.Y) + along*float64(b.Y-a.Y) + away*math.Sin(around)))
					if x >= least && x < most && y >= least && y < most {
						isNear(t, l, w, r, x, y)
					}
				}
			}
		}
	}
}

// long returns lines with the same points as l, whose slices have unused capacity.
func long(l []api.Line) []api.Line {
	list := make([]api.Line, 0, len(l)+2)
	for _, line := range l {
		points := append(slices.Clone(line.Points), unlikely, unlikely)
		list = append(list, api.Line{Points: points[:len(line.Points)], Closed: line.Closed})
	}
	return append(list, api.Line{Points: []api.Point{unlikely}}, api.Line{})[:len(l)]
}

// kept returns all points of lines, with those in the unused capacity.
func kept(l []api.Line) []api.Point {
	var list []api.Point
	for _, line := range l[:cap(l)] {
		list = append(list, line.Points[:cap(line.Points)]...)
	}
	return list
}

// spoil overwrites lines and points, with their unused capacity.
func spoil(l []api.Line, list []api.Point) {
	for i := range list[:cap(list)] {
		list[:cap(list)][i] = unlikely
	}
	for i := range l {
		spoil(nil, l[i].Points)
	}
}

// P2: results are equal for equal arguments, arguments keep their points and their unused capacity, and nothing is shared.
func TestArgumentsAndResults(t *testing.T) {
	p := picker{7}
	for range 300 {
		l, s := long(p.lines(-30, -30, 30, 30, 6)), p.style(9)
		before := kept(l)
		for _, line := range l {
			want := modelOf(line, s)
			parts, discs, _ := stroke.Outline(line, s)
			for i := range parts {
				spoil(parts[i:i+1], nil)
				if !reflect.DeepEqual(parts[i+1:], want.parts[i+1:]) || !slices.Equal(discs, want.discs) {
					t.Fatal("shared", line, s)
				}
			}
			spoil(parts[:cap(parts)], discs)
			isOutline(t, line, s, want)
		}
		cells, _ := stroke.Stroke(l, s)
		want := slices.Clone(cells)
		for i := range cells[:cap(cells)] {
			cells[:cap(cells)][i] = api.Run{Y: -77, X0: -77, X1: -77}
		}
		isStroke(t, l, s, want)
		stroke.Check(s)
		if !slices.Equal(kept(l), before) {
			t.Fatal("changed", l)
		}
	}
}
