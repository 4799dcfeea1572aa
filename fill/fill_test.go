package fill_test

import (
	"math"
	"slices"
	"testing"

	"printworks/api"
	"printworks/fill"
	"printworks/region"
)

// The signatures are those of the chapter.
var (
	_ func([]api.Line) api.Errno                   = fill.Check
	_ func([]api.Line, int, int) (int, api.Errno)  = fill.Winding
	_ func([]api.Line, int) ([]api.Run, api.Errno) = fill.Fill
	_ func([]api.Line) (int, api.Errno)            = fill.Area2
)

const (
	most  = api.MaxCell
	least = -api.MaxCell
	far   = api.MaxCoord
)

// unlikely fills the unused capacity of arguments.
var unlikely = api.Point{X: -77, Y: -77}

// rules are all rules of filling.
var rules = []int{api.NonZero, api.EvenOdd}

// line returns a line through the points whose coordinates are given, first that to the right.
func line(coordinates ...int) api.Line {
	var l api.Line
	for i := 0; i < len(coordinates); i += 2 {
		l.Points = append(l.Points, api.Point{X: coordinates[i], Y: coordinates[i+1]})
	}
	return l
}

// box returns a rectangle as a line. Its winding numbers are 1.
func box(x0, y0, x1, y1 int) api.Line {
	return line(x0, y0, x0, y1, x1, y1, x1, y0)
}

// triangle is the example of the chapter.
func triangle() []api.Line {
	return []api.Line{line(0, 0, 0, 4, 4, 4)}
}

// edge is an edge from the point 0 to the point 1.
type edge struct{ x0, y0, x1, y1 int }

// edgesOf returns all edges of lines.
func edgesOf(l []api.Line) []edge {
	var list []edge
	for _, line := range l {
		for i, q := range line.Points {
			p := line.Points[(i+len(line.Points)-1)%len(line.Points)]
			list = append(list, edge{p.X, p.Y, q.X, q.Y})
		}
	}
	return list
}

// winding follows the words of the chapter.
func winding(l []api.Line, x, y int) int {
	n := 0
	for _, e := range edgesOf(l) {
		// The crossing is the fraction above / below, which is compared with (2 x + 1) / 2.
		below := 2 * (e.y1 - e.y0)
		above := e.x0*below + (e.x1-e.x0)*(2*y+1-2*e.y0)
		if e.y0 <= y && y < e.y1 && 2*above <= (2*x+1)*below {
			n++
		}
		if e.y1 <= y && y < e.y0 && 2*above >= (2*x+1)*below {
			n--
		}
	}
	return n
}

// isFilled tells whether cells with a winding number are filled.
func isFilled(n, rule int) bool {
	return rule == api.NonZero && n != 0 || rule == api.EvenOdd && (n%2 == 1 || n%2 == -1)
}

// agrees checks Winding and Fill at the cells of a square. The lines are filled nowhere else.
func agrees(t *testing.T, l []api.Line, x0, y0, x1, y1 int) {
	t.Helper()
	cells := [2][]api.Point{}
	for y := y0; y < y1; y++ {
		for x := x0; x < x1; x++ {
			want := winding(l, x, y)
			if n, e := fill.Winding(l, x, y); n != want || e != api.OK {
				t.Fatal(l, x, y, "Winding", n, e, "instead of", want)
			}
			for i, rule := range rules {
				if isFilled(want, rule) {
					cells[i] = append(cells[i], api.Point{X: x, Y: y})
				}
			}
		}
	}
	for i, rule := range rules {
		want, _ := region.Of(cells[i])
		isFill(t, l, rule, want)
	}
}

// isFill checks the result of Fill.
func isFill(t *testing.T, l []api.Line, rule int, want []api.Run) {
	t.Helper()
	if got, e := fill.Fill(l, rule); e != api.OK || !slices.Equal(got, want) {
		t.Fatal(l, rule, "Fill", len(got), e, "instead of", len(want))
	}
}

// picker gives numbers that follow a fixed rule.
type picker struct{ state uint64 }

func (p *picker) below(n int) int {
	p.state = p.state*6364136223846793005 + 1442695040888963407
	return int(p.state>>33) % n
}

// between returns a number from a to b.
func (p *picker) between(a, b int) int {
	return a + p.below(b-a+1)
}

// lines returns up to three lines with points in a square.
func (p *picker) lines(x0, y0, x1, y1, points int) []api.Line {
	var l []api.Line
	for range p.between(1, 3) {
		var line api.Line
		for range p.below(points + 1) {
			line.Points = append(line.Points, api.Point{X: p.between(x0, x1), Y: p.between(y0, y1)})
		}
		line.Closed = p.below(2) == 0
		l = append(l, line)
	}
	return l
}

// shifted returns lines whose points are shifted.
func shifted(l []api.Line, dx, dy int) []api.Line {
	var list []api.Line
	for _, line := range l {
		points := slices.Clone(line.Points)
		for i := range points {
			points[i] = api.Point{X: points[i].X + dx, Y: points[i].Y + dy}
		}
		list = append(list, api.Line{Points: points, Closed: line.Closed})
	}
	return list
}

// reversed returns lines that lead the opposite way.
func reversed(l []api.Line) []api.Line {
	list := shifted(l, 0, 0)
	for _, line := range list {
		slices.Reverse(line.Points)
	}
	return list
}

// broken has lines with a coordinate that is not permitted.
func broken() [][]api.Line {
	var list [][]api.Line
	for _, n := range []int{far + 1, -far - 1, 1 << 32, math.MaxInt, math.MinInt} {
		list = append(list,
			[]api.Line{line(n, 0)},
			[]api.Line{line(0, n)},
			[]api.Line{line(0, 0, 0, 4, 4, n)},
			[]api.Line{line(0, 0, n, 4, 4, 4)},
			[]api.Line{{}, line(0, 0, 0, 4, 4, 4), line(far, far, n, n)},
			[]api.Line{line(n, -n), triangle()[0]},
		)
	}
	return list
}

// P153: the error of Check comes first in all functions.
func TestCoordinateErrors(t *testing.T) {
	for _, l := range broken() {
		if e := fill.Check(l); e != api.ErrRange {
			t.Error(l, e)
		}
		for _, n := range []int{0, most, math.MinInt} {
			if w, e := fill.Winding(l, n, n); w != 0 || e != api.ErrRange {
				t.Error(l, n, w, e)
			}
		}
		for _, rule := range []int{api.NonZero, api.EvenOdd, -1, 2, math.MaxInt} {
			if r, e := fill.Fill(l, rule); len(r) != 0 || e != api.ErrRange {
				t.Error(l, rule, r, e)
			}
		}
		if n, e := fill.Area2(l); n != 0 || e != api.ErrRange {
			t.Error(l, n, e)
		}
	}
}

// P153: the greatest coordinates are permitted, and lines without points or edges are.
func TestPermittedLines(t *testing.T) {
	for _, l := range [][]api.Line{nil, {}, {{}}, {{Closed: true}}, {line(0, 0)}, {line(far, far)}, {line(-far, -far, far, far)}, {box(-far, -far, far, far)}} {
		if e := fill.Check(l); e != api.OK {
			t.Error(l, e)
		}
	}
}

// P153 to P157: lines of which no area is left.
func TestFlatLines(t *testing.T) {
	for _, l := range [][]api.Line{nil, {}, {{}}, {{Closed: true}, {}}, {line(1, 1)}, {line(3, 3, 3, 3)}, {line(0, 0, 9, 4)}, {line(-5, 7, 5, 7, 2, 7)}, {line(0, 0, 0, 9, 0, 4)}, {{}, line(2, 2), line(0, 0, 6, 6, 3, 3)}} {
		agrees(t, l, -9, -9, 12, 12)
		for _, rule := range rules {
			isFill(t, l, rule, nil)
		}
		if n, e := fill.Area2(l); n != 0 || e != api.OK {
			t.Error(l, n, e)
		}
	}
}

// P153: lines are closed, whatever their Closed is, also where the last point is equal to the first one.
func TestClosed(t *testing.T) {
	for _, l := range [][]api.Line{triangle(), {line(0, 0, 0, 4, 4, 4, 0, 0)}, {{Closed: true, Points: triangle()[0].Points}}} {
		agrees(t, l, -2, -2, 7, 7)
		for _, rule := range rules {
			isFill(t, l, rule, []api.Run{{Y: 1, X1: 1}, {Y: 2, X1: 2}, {Y: 3, X1: 3}})
		}
		if n, e := fill.Area2(l); n != 16 || e != api.OK {
			t.Error(l, n, e)
		}
	}
}

// P155: cells that are not permitted have no winding number; those at the ends have one.
func TestWindingErrors(t *testing.T) {
	for _, l := range [][]api.Line{nil, triangle(), {box(-far, -far, far, far)}} {
		for _, n := range []int{most, least - 1, far, -far, 1 << 32, math.MaxInt, math.MinInt} {
			for _, c := range []api.Point{{X: n}, {Y: n}, {X: n, Y: n}} {
				if w, e := fill.Winding(l, c.X, c.Y); w != 0 || e != api.ErrRange {
					t.Error(l, c, w, e)
				}
			}
		}
		for _, c := range []api.Point{{X: most - 1}, {X: least}, {Y: most - 1}, {Y: least}, {X: least, Y: most - 1}} {
			if w, e := fill.Winding(l, c.X, c.Y); w != winding(l, c.X, c.Y) || e != api.OK {
				t.Error(l, c, w, e)
			}
		}
	}
}

// P156: there are two rules, also for lines without cells.
func TestRuleErrors(t *testing.T) {
	for _, l := range [][]api.Line{nil, triangle()} {
		for _, rule := range []int{-1, 2, 3, math.MaxInt, math.MinInt} {
			if r, e := fill.Fill(l, rule); len(r) != 0 || e != api.ErrArg {
				t.Error(l, rule, r, e)
			}
		}
	}
}

// P154 and P155: an edge that meets the centre of a cell has this cell behind it, upwards and downwards; it crosses the row of its upper end, but not that of its lower end.
func TestCrossings(t *testing.T) {
	for _, c := range []struct {
		l          []api.Line
		x, y, want int
	}{
		{triangle(), 0, 0, 0},
		{triangle(), 0, 1, 1},
		{triangle(), -1, 1, 0},
		{triangle(), 1, 1, 0},
		{triangle(), 3, 3, 0},
		{triangle(), 2, 3, 1},
		{triangle(), 0, 4, 0},
		{triangle(), 0, -1, 0},
		{reversed(triangle()), 0, 1, -1},
		{reversed(triangle()), 1, 1, 0},
		{[]api.Line{line(0, 0, 4, 4, 4, 0)}, 0, 0, 1},
		{[]api.Line{line(0, 0, 4, 4, 4, 0)}, 2, 2, 1},
		{[]api.Line{line(0, 0, 4, 4, 4, 0)}, 1, 2, 0},
		{[]api.Line{line(0, 0, 1, 3, 9, 3, 9, 0)}, 0, 1, 1},
		{[]api.Line{line(0, 0, 1, 3, 9, 3, 9, 0)}, 0, 2, 0},
		{[]api.Line{line(-1, 0, 0, 1, 9, 1, 9, 0)}, -1, 0, 1},
		{[]api.Line{line(0, 0, -1, 1, 9, 1, 9, 0)}, -1, 0, 1},
		{[]api.Line{line(0, 0, -1, 3, 9, 3, 9, 0)}, -1, 0, 0},
		{[]api.Line{line(0, 0, -1, 3, 9, 3, 9, 0)}, -1, 1, 1},
		{[]api.Line{box(0, 0, 2, 2), box(1, 1, 3, 3)}, 1, 1, 2},
		{[]api.Line{box(0, 0, 2, 2), reversed([]api.Line{box(1, 1, 3, 3)})[0]}, 1, 1, 0},
	} {
		if n, e := fill.Winding(c.l, c.x, c.y); n != c.want || e != api.OK {
			t.Error(c.l, c.x, c.y, n, e, "instead of", c.want)
		}
	}
}

// P154 to P156: all triangles with coordinates from -2 to 2.
func TestTriangles(t *testing.T) {
	for code := range 5 * 5 * 5 * 5 * 5 * 5 {
		var coordinates []int
		for ; len(coordinates) < 6; code /= 5 {
			coordinates = append(coordinates, code%5-2)
		}
		agrees(t, []api.Line{line(coordinates...)}, -3, -3, 3, 3)
	}
}

// P154 to P156: lines that cross each other and themselves, with several winding numbers.
func TestLines(t *testing.T) {
	p := picker{1}
	for range 4000 {
		side := p.between(1, 12)
		agrees(t, p.lines(-side, -side, side, side, 9), -side-1, -side-1, side+2, side+2)
	}
}

// P156: runs that meet are one run, and those of different winding numbers too; an even number is filled by one rule only.
func TestRuns(t *testing.T) {
	isFill(t, []api.Line{box(0, 0, 2, 1), box(2, 0, 5, 1)}, api.NonZero, []api.Run{{X1: 5}})
	isFill(t, []api.Line{box(0, 0, 2, 1), box(2, 0, 5, 1)}, api.EvenOdd, []api.Run{{X1: 5}})
	isFill(t, []api.Line{box(0, 0, 3, 1), box(2, 0, 5, 1)}, api.NonZero, []api.Run{{X1: 5}})
	isFill(t, []api.Line{box(0, 0, 3, 1), box(2, 0, 5, 1)}, api.EvenOdd, []api.Run{{X1: 2}, {X0: 3, X1: 5}})
	isFill(t, []api.Line{box(0, 0, 3, 1), box(5, 0, 2, 1)}, api.NonZero, []api.Run{{X1: 2}, {X0: 3, X1: 5}})
	isFill(t, []api.Line{box(0, 0, 3, 1), box(5, 0, 0, 1)}, api.NonZero, []api.Run{{X0: 3, X1: 5}})
	isFill(t, []api.Line{box(0, 0, 3, 1), box(0, 0, 3, 1), box(0, 0, 3, 1)}, api.EvenOdd, []api.Run{{X1: 3}})
	isFill(t, []api.Line{box(3, 0, 0, 1), box(3, 0, 0, 1), box(3, 0, 0, 1)}, api.EvenOdd, []api.Run{{X1: 3}})
	isFill(t, []api.Line{box(3, 0, 0, 1), box(3, 0, 0, 1)}, api.EvenOdd, nil)
	isFill(t, []api.Line{box(0, 5, 1, 6), box(0, 0, 1, 1)}, api.NonZero, []api.Run{{X1: 1}, {Y: 5, X1: 1}})
}

// P156: only permitted cells are filled.
func TestEnds(t *testing.T) {
	for _, c := range [][4]int{
		{least, least, most, most},
		{-far, -far, far, far},
		{least - 1, least - 1, most + 1, most + 1},
		{least + 1, least + 1, most - 1, most - 1},
		{most - 1, most - 1, far, far},
		{most, 0, far, 9},
		{0, most, 9, far},
		{-far, -far, least, least},
		{-far, -far, least + 1, least + 1},
		{-far, 3, least, 9},
		{3, -far, 9, least},
		{3, -far, 9, far},
		{-far, 3, far, 9},
	} {
		want, _ := region.Rectangle(max(least, min(c[0], most)), max(least, min(c[1], most)), max(least, min(c[2], most)), max(least, min(c[3], most)))
		for _, rule := range rules {
			isFill(t, []api.Line{box(c[0], c[1], c[2], c[3])}, rule, want)
			isFill(t, []api.Line{box(c[2], c[1], c[0], c[3])}, rule, want)
		}
	}
}

// P154 to P156: lines that are near the ends of the permitted cells, and partly beside them.
func TestLinesAtEnds(t *testing.T) {
	p := picker{2}
	ends := []int{least, 0, most}
	for _, y := range ends {
		for _, x := range ends {
			for range 40 {
				l := p.lines(x-8, y-8, x+8, y+8, 8)
				agrees(t, l, max(x-9, least), max(y-9, least), min(x+10, most), min(y+10, most))
			}
		}
	}
}

// P154 to P156: long edges, whose crossings have great numerators.
func TestLongEdges(t *testing.T) {
	p := picker{3}
	for range 60 {
		l := p.lines(-far, -far, far, far, 7)
		l = append(l, line(-far, p.between(-far, far), far, far, p.between(-far, far), -far))
		filled := [2][]api.Run{}
		for i, rule := range rules {
			filled[i], _ = fill.Fill(l, rule)
			if e := region.Check(filled[i]); e != api.OK {
				t.Fatal(l, rule, e)
			}
		}
		for range 200 {
			y := p.between(least, most-1)
			if p.below(4) == 0 {
				y = []int{least, most - 1}[p.below(2)]
			}
			for _, x := range near(l, y) {
				want := winding(l, x, y)
				if n, e := fill.Winding(l, x, y); n != want || e != api.OK {
					t.Fatal(l, x, y, n, e, "instead of", want)
				}
				for i, rule := range rules {
					if isFilled(want, rule) != has(filled[i], x, y) {
						t.Fatal(l, x, y, rule, want)
					}
				}
			}
		}
	}
}

// has tells whether a region has a cell.
func has(r []api.Run, x, y int) bool {
	for i, found := slices.BinarySearchFunc(r, y, func(run api.Run, y int) int { return run.Y - y }); found && i < len(r) && r[i].Y == y; i++ {
		if r[i].X0 <= x && x < r[i].X1 {
			return true
		}
	}
	return false
}

// near returns the permitted cells of a row that are at the edges, and those at its ends.
func near(l []api.Line, y int) []int {
	list := []int{least, most - 1}
	for _, e := range edgesOf(l) {
		if e.y0 == e.y1 {
			continue
		}
		at := float64(e.x0) + float64(e.x1-e.x0)*(float64(y)+0.5-float64(e.y0))/float64(e.y1-e.y0)
		for x := int(math.Floor(at)) - 1; x <= int(math.Floor(at))+1; x++ {
			if x >= least && x < most {
				list = append(list, x)
			}
		}
	}
	return list
}

// P156: many lines in one row and in all rows, which the rules combine.
func TestManyLines(t *testing.T) {
	var teeth, columns []api.Line
	var want []api.Run
	for x := least; x < most; x += 4 {
		teeth = append(teeth, box(x, 7, x+2, 8))
		columns = append(columns, box(x, -far, x+2, far))
		want = append(want, api.Run{Y: 7, X0: x, X1: x + 2})
	}
	slices.Reverse(teeth)
	isFill(t, teeth, api.NonZero, want)
	isFill(t, append(teeth, box(least, 7, most, 8)), api.NonZero, []api.Run{{Y: 7, X0: least, X1: most}})
	filled, e := fill.Fill(append(columns[:64], box(least, least, most, most)), api.EvenOdd)
	if n, _ := region.Area(filled); e != api.OK || n != 4*most*most-64*2*2*most {
		t.Error(n, e)
	}
}

// P157: the area of rectangles and of other lines, with the sign of the winding numbers.
func TestArea(t *testing.T) {
	for _, c := range []struct {
		l    []api.Line
		want int
	}{
		{nil, 0},
		{triangle(), 16},
		{reversed(triangle()), -16},
		{[]api.Line{box(0, 0, 5, 3)}, 30},
		{[]api.Line{box(7, -9, 12, -6)}, 30},
		{[]api.Line{box(5, 0, 0, 3)}, -30},
		{[]api.Line{box(0, 0, 5, 3), box(-1, -1, 1, 1)}, 38},
		{[]api.Line{box(0, 0, 5, 3), box(1, -1, -1, 1)}, 22},
		{[]api.Line{box(-far, -far, far, far)}, 8 * far * far},
		{[]api.Line{box(far, -far, -far, far)}, -8 * far * far},
		{[]api.Line{line(0, 0, 1, 2, 3, 1)}, 5},
		{[]api.Line{line(0, 0, 4, 4, 4, 0, 0, 4)}, 0},
		{[]api.Line{line(1, 0, 1, 2, 1, 0, 1, 2)}, 0},
	} {
		if n, e := fill.Area2(c.l); n != c.want || e != api.OK {
			t.Error(c.l, n, e, "instead of", c.want)
		}
	}
}

// P157: the sum of all edges, for any lines.
func TestAreaOfLines(t *testing.T) {
	p := picker{4}
	for range 1000 {
		l := p.lines(-far, -far, far, far, 9)
		want := 0
		for _, e := range edgesOf(l) {
			want += e.x1*e.y0 - e.x0*e.y1
		}
		if n, e := fill.Area2(l); n != want || e != api.OK {
			t.Fatal(l, n, e, "instead of", want)
		}
	}
}

// P158: cells and area agree as well as the heights of the edges tell.
func TestAreaOfCells(t *testing.T) {
	p := picker{5}
	for i := range 1500 {
		side := p.between(1, 12)
		corner := []int{least, -side / 2, most - side}[i%3]
		l := p.lines(corner, corner, corner+side, corner+side, 9)
		sum, heights := 0, 0
		for y := max(corner-1, least); y <= min(corner+side, most-1); y++ {
			for x := max(corner-1, least); x <= min(corner+side, most-1); x++ {
				n, _ := fill.Winding(l, x, y)
				sum += n
			}
		}
		for _, e := range edgesOf(l) {
			heights += max(e.y1-e.y0, e.y0-e.y1)
		}
		area, _ := fill.Area2(l)
		if difference := 2*sum - area; difference > heights || difference < -heights {
			t.Fatal(l, sum, area, heights)
		}
	}
}

// P154 to P157: lines that lead the opposite way have the opposite numbers and the same cells, and shifted lines have shifted ones.
func TestReversedAndShifted(t *testing.T) {
	p := picker{6}
	for range 1000 {
		l := p.lines(-9, -9, 9, 9, 9)
		back := reversed(l)
		dx, dy := p.between(-most+20, most-20), p.between(-most+20, most-20)
		away := shifted(l, dx, dy)
		for range 20 {
			x, y := p.between(-9, 9), p.between(-9, 9)
			n, _ := fill.Winding(l, x, y)
			opposite, _ := fill.Winding(back, x, y)
			same, _ := fill.Winding(away, x+dx, y+dy)
			if opposite != -n || same != n {
				t.Fatal(l, x, y, n, opposite, same)
			}
		}
		area, _ := fill.Area2(l)
		opposite, _ := fill.Area2(back)
		same, _ := fill.Area2(away)
		if opposite != -area || same != area {
			t.Fatal(l, area, opposite, same)
		}
		for _, rule := range rules {
			r, _ := fill.Fill(l, rule)
			isFill(t, back, rule, r)
			r, _ = region.Shift(r, dx, dy)
			isFill(t, away, rule, r)
		}
	}
}

// long returns lines with the same points as l, whose slices have unused capacity.
func long(l []api.Line) []api.Line {
	list := make([]api.Line, 0, len(l)+2)
	for _, line := range l {
		points := append(slices.Clone(line.Points), unlikely, unlikely)
		list = append(list, api.Line{Points: points[:len(line.Points)], Closed: line.Closed})
	}
	return append(list, api.Line{Points: []api.Point{unlikely}}, api.Line{})[:len(l)]
}

// points returns all points of lines, with those in the unused capacity.
func points(l []api.Line) []api.Point {
	var list []api.Point
	for _, line := range l[:cap(l)] {
		list = append(list, line.Points[:cap(line.Points)]...)
	}
	return list
}

// P2: results are equal for equal arguments, arguments keep their points and their unused capacity, and nothing is shared.
func TestArgumentsAndResults(t *testing.T) {
	p := picker{7}
	for range 200 {
		l := long(p.lines(-9, -9, 9, 9, 9))
		before := points(l)
		for _, rule := range rules {
			first, _ := fill.Fill(l, rule)
			second, _ := fill.Fill(l, rule)
			kept := slices.Clone(second)
			if !slices.Equal(first, second) {
				t.Fatal("not equal", l, rule)
			}
			for i := range first[:cap(first)] {
				first[:cap(first)][i] = api.Run{Y: -77, X0: -77, X1: -77}
			}
			if !slices.Equal(second, kept) {
				t.Fatal("shared", l, rule)
			}
		}
		fill.Check(l)
		fill.Winding(l, 0, 0)
		fill.Area2(l)
		if !slices.Equal(points(l), before) {
			t.Fatal("changed", l)
		}
	}
}
