package morph_test

import (
	"math"
	"slices"
	"testing"

	"printworks/api"
	"printworks/morph"
	"printworks/region"
)

// The signatures are those of the chapter.
var (
	_ func([]api.Run, int) ([]api.Run, api.Errno) = morph.Dilate
	_ func([]api.Run, int) ([]api.Run, api.Errno) = morph.Erode
	_ func([]api.Run, int) ([]api.Run, api.Errno) = morph.Open
	_ func([]api.Run, int) ([]api.Run, api.Errno) = morph.Close
	_ func([]api.Run, int) ([]api.Run, api.Errno) = morph.Edge
)

const (
	most  = api.MaxCell
	least = -api.MaxCell
	far   = api.MaxSpread
)

// unlikely fills the unused capacity of arguments.
var unlikely = api.Run{Y: -77, X0: -77, X1: -77}

// function is a function of the package, and what it should do with a set of cells.
type function struct {
	name  string
	call  func(r []api.Run, w int) ([]api.Run, api.Errno)
	model func(s set, w int) set
}

func functions() []function {
	return []function{
		{"Dilate", morph.Dilate, dilated},
		{"Erode", morph.Erode, eroded},
		{"Open", morph.Open, func(s set, w int) set { return dilated(eroded(s, w), w) }},
		{"Close", morph.Close, func(s set, w int) set { return eroded(dilated(s, w), w) }},
		{"Edge", morph.Edge, edge},
	}
}

// set is a set of cells.
type set map[api.Point]bool

// runs returns the one way in which a set is written.
func (s set) runs() []api.Run {
	cells := make([]api.Point, 0, len(s))
	for cell := range s {
		cells = append(cells, cell)
	}
	r, _ := region.Of(cells)
	return r
}

// bounds returns the least rectangle that contains all cells.
func (s set) bounds() (x0, y0, x1, y1 int) {
	x0, y0, x1, y1 = most, most, least, least
	for cell := range s {
		x0, y0, x1, y1 = min(x0, cell.X), min(y0, cell.Y), max(x1, cell.X+1), max(y1, cell.Y+1)
	}
	return
}

// counter returns a function that tells how many cells within w of a cell are in the set.
func (s set) counter(w int) func(cell api.Point) int {
	x0, y0, x1, y1 := s.bounds()
	if len(s) == 0 {
		return func(api.Point) int { return 0 }
	}
	// sums[y][x] is the number of cells above and to the left of the point (x0 + x, y0 + y).
	sums := make([][]int, y1-y0+1)
	for y := range sums {
		sums[y] = make([]int, x1-x0+1)
		for x := 1; y > 0 && x < len(sums[y]); x++ {
			sums[y][x] = sums[y-1][x] + sums[y][x-1] - sums[y-1][x-1]
			if s[api.Point{X: x0 + x - 1, Y: y0 + y - 1}] {
				sums[y][x]++
			}
		}
	}
	sum := func(x, y int) int {
		return sums[max(0, min(y-y0, y1-y0))][max(0, min(x-x0, x1-x0))]
	}
	return func(cell api.Point) int {
		left, top, right, bottom := cell.X-w, cell.Y-w, cell.X+w+1, cell.Y+w+1
		return sum(right, bottom) - sum(left, bottom) - sum(right, top) + sum(left, top)
	}
}

// dilated returns the permitted cells that are within w of a cell of the set.
func dilated(s set, w int) set {
	result, count := set{}, s.counter(w)
	x0, y0, x1, y1 := s.bounds()
	for y := max(y0-w, least); y < min(y1+w, most); y++ {
		for x := max(x0-w, least); x < min(x1+w, most); x++ {
			if cell := (api.Point{X: x, Y: y}); count(cell) > 0 {
				result[cell] = true
			}
		}
	}
	return result
}

// eroded returns the cells of which all cells within w are in the set.
func eroded(s set, w int) set {
	result, count := set{}, s.counter(w)
	for cell := range s {
		if count(cell) == (2*w+1)*(2*w+1) {
			result[cell] = true
		}
	}
	return result
}

// edge returns the cells that are in the dilated set but not in the eroded one.
func edge(s set, w int) set {
	result := dilated(s, w)
	for cell := range eroded(s, w) {
		delete(result, cell)
	}
	return result
}

// agrees checks what all functions do with a set.
func agrees(t *testing.T, s set, w int) {
	t.Helper()
	r := s.runs()
	for _, f := range functions() {
		want := f.model(s, w).runs()
		if got, e := f.call(r, w); e != api.OK || !slices.Equal(got, want) {
			t.Fatal(f.name, w, r, got, e, "instead of", want)
		}
	}
}

// picker gives numbers that follow a fixed rule.
type picker struct{ state uint64 }

func (p *picker) below(n int) int {
	p.state = p.state*6364136223846793005 + 1442695040888963407
	return int(p.state>>33) % n
}

// set returns a set of cells in a square whose upper left cell is given: each one with a chance of n in 16.
func (p *picker) set(corner api.Point, side, n int) set {
	s := set{}
	for y := range side {
		for x := range side {
			if p.below(16) < n {
				s[api.Point{X: corner.X + x, Y: corner.Y + y}] = true
			}
		}
	}
	return s
}

// corners returns places of squares: in the middle, and at the ends of the permitted cells or d cells from there.
func corners(side, d int) []api.Point {
	list := []api.Point{{}}
	ends := []int{least + d, 9, most - side - d}
	for _, y := range ends {
		for _, x := range ends {
			list = append(list, api.Point{X: x, Y: y})
		}
	}
	return list
}

// box returns a rectangle as a region.
func box(x0, y0, x1, y1 int) []api.Run {
	r, _ := region.Rectangle(x0, y0, x1, y1)
	return r
}

// isResult checks the result of a call.
func isResult(t *testing.T, name string, w int, got []api.Run, e api.Errno, want []api.Run) {
	t.Helper()
	if e != api.OK || !slices.Equal(got, want) {
		t.Errorf("%s with %d: %d runs instead of %d, %v", name, w, len(got), len(want), e)
	}
}

// broken has regions with an error.
var broken = []struct {
	r []api.Run
	e api.Errno
}{
	{[]api.Run{{Y: most, X0: 0, X1: 1}}, api.ErrRange},
	{[]api.Run{{Y: least - 1, X0: 0, X1: 1}}, api.ErrRange},
	{[]api.Run{{Y: 0, X0: least - 1, X1: 1}}, api.ErrRange},
	{[]api.Run{{Y: 0, X0: 0, X1: most + 1}}, api.ErrRange},
	{[]api.Run{{Y: math.MinInt, X0: math.MinInt, X1: math.MaxInt}}, api.ErrRange},
	{[]api.Run{{}}, api.ErrForm},
	{[]api.Run{{Y: 0, X0: 2, X1: 1}}, api.ErrForm},
	{[]api.Run{{Y: 0, X0: 0, X1: 1}, {Y: 0, X0: 1, X1: 2}}, api.ErrOrder},
	{[]api.Run{{Y: 0, X0: 0, X1: 1}, {Y: 0, X0: 0, X1: 1}}, api.ErrOrder},
	{[]api.Run{{Y: 1, X0: 0, X1: 1}, {Y: 0, X0: 0, X1: 1}}, api.ErrOrder},
	{[]api.Run{{Y: 0, X0: 0, X1: 1}, {Y: 1, X0: 1, X1: 1}, {Y: most, X0: 0, X1: 1}}, api.ErrForm},
}

// P147: the error of the region comes first, whatever the distance is.
func TestRegionErrors(t *testing.T) {
	for _, f := range functions() {
		for _, c := range broken {
			for _, w := range []int{0, 1, far, -1, far + 1, math.MinInt, math.MaxInt} {
				if r, e := f.call(c.r, w); e != c.e || len(r) != 0 {
					t.Error(f.name, c.r, w, r, e)
				}
			}
		}
	}
}

// P147: distances that are not permitted, also for a region without cells; those at the ends of the range are permitted.
func TestDistanceErrors(t *testing.T) {
	for _, f := range functions() {
		for _, r := range [][]api.Run{nil, {}, {{Y: 5, X0: 5, X1: 6}}, box(0, 0, 300, 300), {{Y: most - 1, X0: least, X1: most}}} {
			for _, w := range []int{-1, -2, -far, far + 1, far + 2, 1 << 32, -1 << 32, math.MaxInt, math.MinInt, math.MinInt + 1} {
				if got, e := f.call(r, w); e != api.ErrRange || len(got) != 0 {
					t.Error(f.name, w, len(got), e)
				}
			}
			for _, w := range []int{0, far} {
				if _, e := f.call(r, w); e != api.OK {
					t.Error(f.name, w, e)
				}
			}
		}
	}
}

// P147 to P150: a region without cells.
func TestNoCells(t *testing.T) {
	for _, f := range functions() {
		for _, r := range [][]api.Run{nil, {}} {
			for w := range far + 1 {
				if got, e := f.call(r, w); e != api.OK || len(got) != 0 {
					t.Error(f.name, w, got, e)
				}
			}
		}
	}
}

// P147 to P150: only a cell itself is within 0 of it.
func TestDistanceZero(t *testing.T) {
	p := picker{1}
	list := [][]api.Run{box(least, least, most, most), box(-3, -3, 5, 5)}
	for _, corner := range corners(12, 0) {
		list = append(list, p.set(corner, 12, 6).runs())
	}
	for _, r := range list {
		for _, f := range functions() {
			want := r
			if f.name == "Edge" {
				want = nil
			}
			got, e := f.call(r, 0)
			isResult(t, f.name, 0, got, e, want)
		}
	}
}

// P148 and P149: the example of the chapter.
func TestExample(t *testing.T) {
	one := []api.Run{{Y: 5, X0: 5, X1: 6}}
	nine, e := morph.Dilate(one, 1)
	isResult(t, "Dilate", 1, nine, e, []api.Run{{Y: 4, X0: 4, X1: 7}, {Y: 5, X0: 4, X1: 7}, {Y: 6, X0: 4, X1: 7}})
	again, e := morph.Erode(nine, 1)
	isResult(t, "Erode", 1, again, e, one)
}

// P148: rectangles grow by each distance, and meet if they are near each other.
func TestDilateRectangles(t *testing.T) {
	for w := range far + 1 {
		for _, side := range []int{1, 2, 40} {
			got, e := morph.Dilate(box(-7, 3, side-7, 2*side+3), w)
			isResult(t, "Dilate", w, got, e, box(-7-w, 3-w, side-7+w, 2*side+3+w))
		}
		for gap := 2*w - 1; gap <= 2*w+1; gap++ {
			if gap < 1 {
				continue
			}
			beside, e := morph.Dilate([]api.Run{{X0: -1, X1: 0}, {X0: gap, X1: gap + 1}}, w)
			want, _ := region.Union(box(-1-w, -w, w, w+1), box(gap-w, -w, gap+1+w, w+1))
			isResult(t, "Dilate beside", w, beside, e, want)
			below, e := morph.Dilate([]api.Run{{Y: -1, X0: 0, X1: 1}, {Y: gap, X0: 0, X1: 1}}, w)
			want, _ = region.Union(box(-w, -1-w, w+1, w), box(-w, gap-w, w+1, gap+1+w))
			isResult(t, "Dilate below", w, below, e, want)
		}
	}
}

// P148: cells that are not permitted are none of Dilate.
func TestDilateAtEnds(t *testing.T) {
	for w := range far + 1 {
		for _, d := range []int{0, 1, w / 2, w, w + 1} {
			low, high := least+d, most-1-d
			for _, y := range []int{low, 0, high} {
				for _, x := range []int{low, 0, high} {
					got, e := morph.Dilate(box(x, y, x+1, y+1), w)
					isResult(t, "Dilate", w, got, e, box(max(x-w, least), max(y-w, least), min(x+w+1, most), min(y+w+1, most)))
				}
			}
		}
	}
}

// P149: rectangles shrink by each distance until they have no cells.
func TestErodeRectangles(t *testing.T) {
	for w := range far + 1 {
		for _, width := range []int{1, 2 * w, 2*w + 1, 2*w + 2, 2*w + 9} {
			for _, height := range []int{1, 2 * w, 2*w + 1, 2*w + 2, 2*w + 9} {
				got, e := morph.Erode(box(-3, 4, width-3, height+4), w)
				if width < 2*w+1 || height < 2*w+1 {
					isResult(t, "Erode", w, got, e, nil)
				} else {
					isResult(t, "Erode", w, got, e, box(-3+w, 4+w, width-3-w, height+4-w))
				}
			}
		}
	}
}

// P149: a single cell that is missing takes away all cells within w of it.
func TestErodeAroundHole(t *testing.T) {
	for w := 1; w <= far; w++ {
		side := 6*w + 5
		for _, hole := range []api.Point{{X: 3 * w, Y: 3 * w}, {}, {X: side - 1}, {X: w, Y: side - 1}, {X: 2 * w, Y: 2*w + 1}, {X: side/2 + w, Y: 1}} {
			r, _ := region.Minus(box(0, 0, side, side), box(hole.X, hole.Y, hole.X+1, hole.Y+1))
			want, _ := region.Minus(box(w, w, side-w, side-w), box(hole.X-w, hole.Y-w, hole.X+w+1, hole.Y+w+1))
			got, e := morph.Erode(r, w)
			isResult(t, "Erode", w, got, e, want)
		}
	}
}

// P148 to P150: all permitted cells. The cells beside them are not in the region, so Erode has no cell near them, and Close neither.
func TestPlane(t *testing.T) {
	plane := box(least, least, most, most)
	for _, w := range []int{1, 2, 3, 30, far - 1, far} {
		core := box(least+w, least+w, most-w, most-w)
		frame, _ := region.Minus(plane, core)
		for i, want := range [][]api.Run{plane, core, plane, core, frame} {
			f := functions()[i]
			got, e := f.call(plane, w)
			isResult(t, f.name, w, got, e, want)
		}
	}
}

// layouts has places of eight cells whose subsets are tested, all of them.
var layouts = [][8]api.Point{
	{{X: 0}, {X: 1}, {X: 2}, {X: 3}, {X: 4}, {X: 5}, {X: 7}, {X: 10}},
	{{Y: 0}, {Y: 1}, {Y: 2}, {Y: 3}, {Y: 4}, {Y: 5}, {Y: 7}, {Y: 10}},
	{{X: -1, Y: -1}, {X: 0, Y: -1}, {X: 1, Y: -1}, {X: -1, Y: 0}, {X: 1, Y: 0}, {X: -1, Y: 1}, {X: 0, Y: 1}, {X: 1, Y: 1}},
	{{X: least, Y: least}, {X: least + 1, Y: least}, {X: least + 2, Y: least}, {X: least, Y: least + 1}, {X: least + 2, Y: least + 1}, {X: least, Y: least + 2}, {X: least + 1, Y: least + 2}, {X: least + 2, Y: least + 2}},
	{{X: most - 3, Y: most - 3}, {X: most - 2, Y: most - 3}, {X: most - 1, Y: most - 3}, {X: most - 3, Y: most - 2}, {X: most - 1, Y: most - 2}, {X: most - 3, Y: most - 1}, {X: most - 2, Y: most - 1}, {X: most - 1, Y: most - 1}},
}

// P148 to P150: all subsets of the layouts, with and without a cell in their middle.
func TestSubsets(t *testing.T) {
	for _, layout := range layouts {
		middle := api.Point{X: (layout[0].X + layout[7].X) / 2, Y: (layout[0].Y + layout[7].Y) / 2}
		for bits := range 512 {
			s := set{}
			for i, cell := range append(layout[:], middle) {
				if bits>>i&1 == 1 {
					s[cell] = true
				}
			}
			for w := range 4 {
				agrees(t, s, w)
			}
		}
	}
}

// P148: the end of a row is not near the beginning of the next one.
func TestEndToEnd(t *testing.T) {
	got, e := morph.Dilate([]api.Run{{Y: 3, X0: most - 1, X1: most}, {Y: 4, X0: least, X1: least + 1}}, 1)
	isResult(t, "Dilate", 1, got, e, []api.Run{
		{Y: 2, X0: most - 2, X1: most},
		{Y: 3, X0: least, X1: least + 2}, {Y: 3, X0: most - 2, X1: most},
		{Y: 4, X0: least, X1: least + 2}, {Y: 4, X0: most - 2, X1: most},
		{Y: 5, X0: least, X1: least + 2},
	})
}

// P148 to P150: sets of all densities, in the middle and at the ends of the permitted cells.
func TestSets(t *testing.T) {
	p := picker{2}
	for _, d := range []int{0, 3} {
		for _, corner := range corners(14, d) {
			for _, n := range []int{1, 8, 14, 15, 16} {
				for w := range 8 {
					agrees(t, p.set(corner, 14, n), w)
				}
			}
		}
	}
}

// P148 to P150: sets that have cells left after they shrink by great distances.
func TestGreatDistances(t *testing.T) {
	const side = 2*far + 20
	p := picker{3}
	for _, w := range []int{9, 16, 31, far - 1, far} {
		for i, corner := range corners(side, inset(w)) {
			s := p.set(corner, side, 16)
			for range i % 4 {
				delete(s, api.Point{X: corner.X + p.below(side), Y: corner.Y + p.below(side)})
			}
			agrees(t, s, w)
		}
	}
}

// inset returns how far sets are from the ends: not at all for some of the distances by which they grow, and less than these for the others.
func inset(w int) int {
	return w % 2 * (w / 3)
}

// P150: Open removes what is too thin, Close fills what is too narrow, and Edge has both sides of the outline.
func TestKnown(t *testing.T) {
	thin, _ := region.Union(box(0, 0, 9, 9), box(9, 4, 20, 6))
	open, e := morph.Open(thin, 1)
	isResult(t, "Open", 1, open, e, box(0, 0, 9, 9))
	gap, _ := region.Minus(box(0, 0, 20, 9), box(8, 0, 10, 5))
	closed, e := morph.Close(gap, 1)
	isResult(t, "Close", 1, closed, e, box(0, 0, 20, 9))
	same, e := morph.Close(gap, 0)
	isResult(t, "Close", 0, same, e, gap)
	outline, e := morph.Edge(box(0, 0, 9, 9), 2)
	want, _ := region.Minus(box(-2, -2, 11, 11), box(2, 2, 7, 7))
	isResult(t, "Edge", 2, outline, e, want)
}

// whole returns a slice with its unused capacity.
func whole(r []api.Run) []api.Run {
	return r[:cap(r)]
}

// P2: results are equal for equal arguments, arguments keep their runs and their unused capacity, and nothing is shared.
func TestArgumentsAndResults(t *testing.T) {
	p := picker{4}
	for _, f := range functions() {
		for _, corner := range corners(10, 0) {
			for _, w := range []int{0, 1, 2, 5} {
				long := append(p.set(corner, 10, 15).runs(), unlikely, unlikely)
				before := slices.Clone(whole(long))
				r := long[:len(long)-2]
				first, _ := f.call(r, w)
				second, _ := f.call(r, w)
				if !slices.Equal(first, second) {
					t.Fatal("not equal", f.name, w, r)
				}
				kept := slices.Clone(second)
				for i := range whole(first) {
					whole(first)[i] = unlikely
				}
				if !slices.Equal(second, kept) || !slices.Equal(whole(long), before) {
					t.Fatal("shared or changed", f.name, w, r)
				}
			}
		}
	}
}
