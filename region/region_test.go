package region_test

import (
	"cmp"
	"iter"
	"maps"
	"math"
	"slices"
	"testing"

	"printworks/api"
	"printworks/region"
)

// The signatures are those of the chapter.
var (
	_ func([]api.Run) api.Errno                         = region.Check
	_ func([]api.Point) ([]api.Run, api.Errno)          = region.Of
	_ func(int, int, int, int) ([]api.Run, api.Errno)   = region.Rectangle
	_ func([]api.Run, int, int) (bool, api.Errno)       = region.Has
	_ func([]api.Run) (int, api.Errno)                  = region.Area
	_ func([]api.Run) (api.Point, api.Point, api.Errno) = region.Bounds
	_ func([]api.Run, []api.Run) ([]api.Run, api.Errno) = region.Union
	_ func([]api.Run, []api.Run) ([]api.Run, api.Errno) = region.Intersect
	_ func([]api.Run, []api.Run) ([]api.Run, api.Errno) = region.Minus
	_ func([]api.Run, []api.Run) ([]api.Run, api.Errno) = region.Xor
	_ func([]api.Run, int, int) ([]api.Run, api.Errno)  = region.Shift
	_ func([]api.Run) iter.Seq[api.Point]               = region.Cells
	_ func([]api.Run) iter.Seq2[int, []api.Run]         = region.Rows
)

const (
	most  = api.MaxCell
	least = -api.MaxCell
)

// beyond has numbers that are no bounds of runs.
var beyond = []int{most + 1, least - 1, 2 * most, 1 << 32, -1 << 32, 1 << 62, math.MaxInt, math.MinInt, math.MinInt + 1}

// unlikely fills the unused capacity of arguments.
var unlikely = api.Run{Y: -77, X0: -77, X1: -77}

// set is a set of cells.
type set map[api.Point]bool

func setOf(cells ...api.Point) set {
	s := set{}
	for _, cell := range cells {
		s[cell] = true
	}
	return s
}

// cells returns the cells of a set, row by row.
func (s set) cells() []api.Point {
	return slices.SortedFunc(maps.Keys(s), func(p, q api.Point) int {
		return cmp.Or(cmp.Compare(p.Y, q.Y), cmp.Compare(p.X, q.X))
	})
}

// runs returns the one way in which a set is written.
func (s set) runs() []api.Run {
	var list []api.Run
	for _, cell := range s.cells() {
		if s[api.Point{X: cell.X - 1, Y: cell.Y}] {
			continue
		}
		end := cell
		for s[end] {
			end.X++
		}
		list = append(list, api.Run{Y: cell.Y, X0: cell.X, X1: end.X})
	}
	return list
}

// chosen returns the cells that are chosen of those in one of two sets.
func chosen(a, b set, choose func(inA, inB bool) bool) set {
	s := set{}
	for _, one := range []set{a, b} {
		for cell := range one {
			if choose(a[cell], b[cell]) {
				s[cell] = true
			}
		}
	}
	return s
}

// operation is a function with two regions, and what it chooses of them.
type operation struct {
	name   string
	call   func(a, b []api.Run) ([]api.Run, api.Errno)
	choose func(inA, inB bool) bool
}

func operations() []operation {
	return []operation{
		{"Union", region.Union, func(inA, inB bool) bool { return inA || inB }},
		{"Intersect", region.Intersect, func(inA, inB bool) bool { return inA && inB }},
		{"Minus", region.Minus, func(inA, inB bool) bool { return inA && !inB }},
		{"Xor", region.Xor, func(inA, inB bool) bool { return inA != inB }},
	}
}

// layouts has places of eight cells whose subsets are tested, all of them.
var layouts = map[string][8]api.Point{
	"one row":         {{X: -4}, {X: -3}, {X: -2}, {X: -1}, {X: 0}, {X: 1}, {X: 2}, {X: 3}},
	"one column":      {{Y: -4}, {Y: -3}, {Y: -2}, {Y: -1}, {Y: 0}, {Y: 1}, {Y: 2}, {Y: 3}},
	"four columns":    {{X: -1}, {X: 0}, {X: 1}, {X: 2}, {X: -1, Y: 1}, {X: 0, Y: 1}, {X: 1, Y: 1}, {X: 2, Y: 1}},
	"end to end":      {{X: most - 2}, {X: most - 1}, {X: least, Y: 1}, {X: least + 1, Y: 1}, {X: most - 2, Y: 1}, {X: most - 1, Y: 1}, {X: least, Y: 2}, {X: least + 1, Y: 2}},
	"corners":         {{X: least, Y: least}, {X: least + 1, Y: least}, {X: most - 1, Y: least}, {X: least, Y: least + 1}, {X: most - 1, Y: most - 2}, {X: least, Y: most - 1}, {X: most - 2, Y: most - 1}, {X: most - 1, Y: most - 1}},
	"far from others": {{X: -70, Y: -900}, {X: 5, Y: -900}, {X: 7, Y: -900}, {X: 7, Y: -899}, {X: 6, Y: 11}, {X: 4000, Y: 4000}, {X: 4001, Y: 4000}, {X: 4002, Y: 4000}},
}

// subset returns the cells of a layout whose bits are 1.
func subset(layout [8]api.Point, bits int) set {
	s := set{}
	for i, cell := range layout {
		if bits>>i&1 == 1 {
			s[cell] = true
		}
	}
	return s
}

// eachSubset calls f with each subset of each layout, and the runs of it.
func eachSubset(f func(s set, r []api.Run)) {
	for _, name := range slices.Sorted(maps.Keys(layouts)) {
		for bits := range 256 {
			s := subset(layouts[name], bits)
			f(s, s.runs())
		}
	}
}

// picker gives numbers that follow a fixed rule.
type picker struct{ state uint64 }

func (p *picker) below(n int) int {
	p.state = p.state*6364136223846793005 + 1442695040888963407
	return int(p.state>>33) % n
}

// set returns a set of cells in a square whose upper left cell is given.
func (p *picker) set(corner api.Point, side int) set {
	s, density := set{}, p.below(9)
	for y := range side {
		for x := range side {
			if p.below(8) < density {
				s[api.Point{X: corner.X + x, Y: corner.Y + y}] = true
			}
		}
	}
	return s
}

// sets returns sets of cells of several sizes and places, also beside the ends of the permitted cells.
func sets() []set {
	const side = 9
	list := []set{{}}
	p := picker{1}
	for range 9 {
		for _, corner := range []api.Point{{}, {X: -5, Y: -7}, {X: 9, Y: 3}, {X: least, Y: least}, {X: most - side, Y: least}, {X: least, Y: most - side}, {X: most - side, Y: most - side}} {
			list = append(list, p.set(corner, side))
		}
	}
	return list
}

// plane returns all permitted cells.
func plane() []api.Run {
	r := make([]api.Run, 0, most-least)
	for y := least; y < most; y++ {
		r = append(r, api.Run{Y: y, X0: least, X1: most})
	}
	return r
}

// broken has runs of which a region has none, with their errors.
var broken = []struct {
	run api.Run
	e   api.Errno
}{
	{api.Run{Y: most, X0: 0, X1: 1}, api.ErrRange},
	{api.Run{Y: least - 1, X0: 0, X1: 1}, api.ErrRange},
	{api.Run{Y: 0, X0: least - 1, X1: 1}, api.ErrRange},
	{api.Run{Y: 0, X0: 0, X1: most + 1}, api.ErrRange},
	{api.Run{Y: 0, X0: most + 1, X1: 0}, api.ErrRange},
	{api.Run{Y: most, X0: 1, X1: 1}, api.ErrRange},
	{api.Run{Y: 0, X0: 1, X1: 1}, api.ErrForm},
	{api.Run{Y: 0, X0: 2, X1: 1}, api.ErrForm},
	{api.Run{Y: 0, X0: most, X1: least}, api.ErrForm},
}

// calls has a call of each function with a region; it tells whether the results are zero, and the error.
func calls(r []api.Run) map[string]func() (bool, api.Errno) {
	fine := []api.Run{{Y: 1, X0: 2, X1: 3}}
	calls := map[string]func() (bool, api.Errno){
		"Has": func() (bool, api.Errno) {
			has, e := region.Has(r, 0, 0)
			return !has, e
		},
		"Area": func() (bool, api.Errno) {
			n, e := region.Area(r)
			return n == 0, e
		},
		"Bounds": func() (bool, api.Errno) {
			p, q, e := region.Bounds(r)
			return p == api.Point{} && q == api.Point{}, e
		},
		"Shift": func() (bool, api.Errno) {
			s, e := region.Shift(r, 1, 1)
			return len(s) == 0, e
		},
		"Shift too far": func() (bool, api.Errno) {
			s, e := region.Shift(r, math.MaxInt, math.MinInt)
			return len(s) == 0, e
		},
	}
	for _, o := range operations() {
		calls[o.name+" with a region"] = func() (bool, api.Errno) {
			s, e := o.call(r, fine)
			return len(s) == 0, e
		}
		calls[o.name+" of a region"] = func() (bool, api.Errno) {
			s, e := o.call(fine, r)
			return len(s) == 0, e
		}
		calls[o.name+" of nothing"] = func() (bool, api.Errno) {
			s, e := o.call(nil, r)
			return len(s) == 0, e
		}
	}
	return calls
}

// isRefused checks that Check returns an error, that the other functions do so first, and that the sequences are empty.
func isRefused(t *testing.T, r []api.Run, want api.Errno) {
	t.Helper()
	if e := region.Check(r); e != want {
		t.Errorf("Check of %v: %v, not %v", r, e, want)
	}
	for name, call := range calls(r) {
		if zero, e := call(); e != want || !zero {
			t.Errorf("%v of %v: %v, not %v; zero: %v", name, r, e, want, zero)
		}
	}
	for cell := range region.Cells(r) {
		t.Errorf("%v has the cell %v", r, cell)
	}
	for y, row := range region.Rows(r) {
		t.Errorf("%v has the row %v: %v", r, y, row)
	}
}

// P138: valid regions.
func TestCheckValid(t *testing.T) {
	for _, r := range [][]api.Run{
		nil, {}, {{Y: 0, X0: 0, X1: 1}}, {{Y: least, X0: least, X1: most}}, {{Y: most - 1, X0: least, X1: most}}, {{Y: 3, X0: most - 1, X1: most}}, {{Y: 3, X0: least, X1: least + 1}},
		{{Y: 3, X0: 4, X1: 5}, {Y: 3, X0: 6, X1: 7}}, {{Y: 3, X0: 4, X1: 5}, {Y: 4, X0: 4, X1: 5}}, {{Y: 3, X0: 4, X1: 5}, {Y: 4, X0: -9, X1: -8}},
		{{Y: 3, X0: 4, X1: most}, {Y: 4, X0: least, X1: -8}}, {{Y: least, X0: 0, X1: 1}, {Y: most - 1, X0: 0, X1: 1}}, plane(),
	} {
		if e := region.Check(r); e != api.OK {
			t.Error(e, r)
		}
	}
	eachSubset(func(s set, r []api.Run) {
		if e := region.Check(r); e != api.OK {
			t.Fatal(e, r)
		}
	})
}

// P138: rows and bounds have ranges.
func TestCheckRange(t *testing.T) {
	for _, n := range append(beyond, most) {
		isRefused(t, []api.Run{{Y: n, X0: 0, X1: 1}}, api.ErrRange)
		isRefused(t, []api.Run{{Y: 0, X0: 0, X1: 1}, {Y: n, X0: 0, X1: 1}}, api.ErrRange)
		isRefused(t, []api.Run{{Y: n, X0: 1, X1: 0}}, api.ErrRange)
	}
	for _, n := range beyond {
		for _, run := range []api.Run{{X0: n, X1: 1}, {X0: 0, X1: n}, {X0: n, X1: n}, {X0: n, X1: least}, {X0: most, X1: n}} {
			isRefused(t, []api.Run{run}, api.ErrRange)
			isRefused(t, []api.Run{{Y: 0, X0: 0, X1: 1}, run}, api.ErrRange)
			run.Y = 1
			isRefused(t, []api.Run{{Y: 0, X0: 0, X1: 1}, run}, api.ErrRange)
		}
	}
}

// P138: a run has cells.
func TestCheckForm(t *testing.T) {
	for _, bounds := range [][2]int{{0, 0}, {1, 0}, {least, least}, {most, most}, {most, least}, {5, -5}, {most, most - 1}} {
		run := api.Run{Y: 2, X0: bounds[0], X1: bounds[1]}
		isRefused(t, []api.Run{run}, api.ErrForm)
		isRefused(t, []api.Run{run, {Y: 3, X0: 0, X1: 1}}, api.ErrForm)
		for y := 1; y <= 3; y++ {
			isRefused(t, []api.Run{{Y: y, X0: 0, X1: 1}, run}, api.ErrForm)
		}
	}
}

// P138: the runs are in order, and those of one row do not touch.
func TestCheckOrder(t *testing.T) {
	for _, r := range [][]api.Run{
		{{Y: 0, X0: 0, X1: 1}, {Y: 0, X0: 0, X1: 1}},
		{{Y: 0, X0: 0, X1: 1}, {Y: 0, X0: 1, X1: 2}},
		{{Y: 0, X0: 0, X1: 5}, {Y: 0, X0: 5, X1: 6}},
		{{Y: 0, X0: 0, X1: 5}, {Y: 0, X0: 4, X1: 6}},
		{{Y: 0, X0: 0, X1: 5}, {Y: 0, X0: 2, X1: 3}},
		{{Y: 0, X0: 4, X1: 5}, {Y: 0, X0: 0, X1: 1}},
		{{Y: 0, X0: 4, X1: 5}, {Y: 0, X0: 0, X1: 9}},
		{{Y: 1, X0: 0, X1: 1}, {Y: 0, X0: 0, X1: 1}},
		{{Y: 1, X0: 0, X1: 1}, {Y: 0, X0: 4, X1: 5}},
		{{Y: most - 1, X0: least, X1: most}, {Y: least, X0: least, X1: most}},
		{{Y: 0, X0: 0, X1: 1}, {Y: 1, X0: 0, X1: 1}, {Y: 0, X0: 3, X1: 4}},
		{{Y: 0, X0: 0, X1: 1}, {Y: 1, X0: 0, X1: 1}, {Y: 1, X0: 1, X1: 2}},
		append(plane(), api.Run{Y: most - 1, X0: 0, X1: 1}),
	} {
		isRefused(t, r, api.ErrOrder)
	}
}

// P138: a run is examined for all errors before the next one.
func TestCheckInOrder(t *testing.T) {
	for _, a := range broken {
		for _, b := range broken {
			isRefused(t, []api.Run{a.run, b.run}, a.e)
			isRefused(t, []api.Run{{Y: -5, X0: 0, X1: 1}, a.run, b.run}, a.e)
		}
		isRefused(t, []api.Run{a.run, {Y: -5, X0: 0, X1: 1}}, a.e)
		isRefused(t, []api.Run{{Y: 5, X0: 0, X1: 1}, a.run}, a.e)
		isRefused(t, []api.Run{{Y: 5, X0: 0, X1: 1}, {Y: 5, X0: 1, X1: 2}, a.run}, api.ErrOrder)
	}
}

// P138: of two regions, the first one is examined first.
func TestTwoInvalidRegions(t *testing.T) {
	for _, a := range broken {
		for _, b := range broken {
			for _, o := range operations() {
				if r, e := o.call([]api.Run{a.run}, []api.Run{b.run}); e != a.e || len(r) != 0 {
					t.Error(o.name, a, b, r, e)
				}
			}
		}
	}
}

// P138: a set of cells is written in one way, which the results have.
func TestOneWay(t *testing.T) {
	eachSubset(func(s set, r []api.Run) {
		of, e := region.Of(s.cells())
		if e != api.OK || !slices.Equal(of, r) {
			t.Fatal(r, of, e)
		}
		for _, o := range operations() {
			same, e := o.call(r, nil)
			want := chosen(s, nil, o.choose).runs()
			if e != api.OK || !slices.Equal(same, want) {
				t.Fatal(o.name, r, same, e)
			}
		}
	})
}

// P139: the four operations with all pairs of subsets of the layouts.
func TestOperationsOfSubsets(t *testing.T) {
	for name, layout := range layouts {
		var all [256][]api.Run
		for bits := range all {
			all[bits] = subset(layout, bits).runs()
		}
		functions := operations()
		for a := range all {
			for b := range all {
				for i, want := range []int{a | b, a & b, a &^ b, a ^ b} {
					o := functions[i]
					if r, e := o.call(all[a], all[b]); e != api.OK || !slices.Equal(r, all[want]) {
						t.Fatal(name, o.name, all[a], all[b], r, e)
					}
				}
			}
		}
	}
}

// P139: the four operations with sets of all kinds.
func TestOperationsOfSets(t *testing.T) {
	list := sets()
	for _, a := range list {
		for _, b := range list {
			for _, o := range operations() {
				want := chosen(a, b, o.choose).runs()
				if r, e := o.call(a.runs(), b.runs()); e != api.OK || !slices.Equal(r, want) {
					t.Fatal(o.name, a.runs(), b.runs(), r, e)
				}
			}
		}
	}
}

// P139: known regions.
func TestOperationsKnown(t *testing.T) {
	for _, c := range []struct{ a, b, union, intersect, minus, xor []api.Run }{
		{},
		{
			a:     []api.Run{{Y: 0, X0: 0, X1: 2}, {Y: 1, X0: 0, X1: 2}},
			b:     []api.Run{{Y: 1, X0: 2, X1: 4}, {Y: 2, X0: 2, X1: 4}},
			union: []api.Run{{Y: 0, X0: 0, X1: 2}, {Y: 1, X0: 0, X1: 4}, {Y: 2, X0: 2, X1: 4}},
			minus: []api.Run{{Y: 0, X0: 0, X1: 2}, {Y: 1, X0: 0, X1: 2}},
			xor:   []api.Run{{Y: 0, X0: 0, X1: 2}, {Y: 1, X0: 0, X1: 4}, {Y: 2, X0: 2, X1: 4}},
		},
		{
			a:         []api.Run{{Y: 5, X0: 0, X1: 10}},
			b:         []api.Run{{Y: 5, X0: 3, X1: 7}},
			union:     []api.Run{{Y: 5, X0: 0, X1: 10}},
			intersect: []api.Run{{Y: 5, X0: 3, X1: 7}},
			minus:     []api.Run{{Y: 5, X0: 0, X1: 3}, {Y: 5, X0: 7, X1: 10}},
			xor:       []api.Run{{Y: 5, X0: 0, X1: 3}, {Y: 5, X0: 7, X1: 10}},
		},
		{
			a:         []api.Run{{Y: 5, X0: 0, X1: 10}, {Y: 5, X0: 20, X1: 30}, {Y: 5, X0: 40, X1: 50}},
			b:         []api.Run{{Y: 5, X0: 5, X1: 20}, {Y: 5, X0: 25, X1: 45}},
			union:     []api.Run{{Y: 5, X0: 0, X1: 50}},
			intersect: []api.Run{{Y: 5, X0: 5, X1: 10}, {Y: 5, X0: 25, X1: 30}, {Y: 5, X0: 40, X1: 45}},
			minus:     []api.Run{{Y: 5, X0: 0, X1: 5}, {Y: 5, X0: 20, X1: 25}, {Y: 5, X0: 45, X1: 50}},
			xor:       []api.Run{{Y: 5, X0: 0, X1: 5}, {Y: 5, X0: 10, X1: 25}, {Y: 5, X0: 30, X1: 40}, {Y: 5, X0: 45, X1: 50}},
		},
		{
			a:     []api.Run{{Y: 0, X0: 5, X1: most}},
			b:     []api.Run{{Y: 1, X0: least, X1: 5}},
			union: []api.Run{{Y: 0, X0: 5, X1: most}, {Y: 1, X0: least, X1: 5}},
			minus: []api.Run{{Y: 0, X0: 5, X1: most}},
			xor:   []api.Run{{Y: 0, X0: 5, X1: most}, {Y: 1, X0: least, X1: 5}},
		},
	} {
		for i, want := range [][]api.Run{c.union, c.intersect, c.minus, c.xor} {
			o := operations()[i]
			if r, e := o.call(c.a, c.b); e != api.OK || !slices.Equal(r, want) {
				t.Error(o.name, c.a, c.b, r, e)
			}
		}
	}
}

// P139: all permitted cells, and every other column of them.
func TestOperationsOfPlane(t *testing.T) {
	all := plane()
	var even, odd []api.Run
	for _, y := range []int{least, 0, most - 1} {
		for x := least; x < most; x += 2 {
			even, odd = append(even, api.Run{Y: y, X0: x, X1: x + 1}), append(odd, api.Run{Y: y, X0: x + 1, X1: x + 2})
		}
	}
	rows := []api.Run{all[0], all[-least], all[len(all)-1]}
	for _, c := range []struct {
		name       string
		call       func(a, b []api.Run) ([]api.Run, api.Errno)
		a, b, want []api.Run
	}{
		{"Union", region.Union, all, all, all},
		{"Union", region.Union, even, all, all},
		{"Union", region.Union, even, odd, rows},
		{"Intersect", region.Intersect, all, odd, odd},
		{"Intersect", region.Intersect, even, odd, nil},
		{"Minus", region.Minus, all, all, nil},
		{"Minus", region.Minus, rows, odd, even},
		{"Xor", region.Xor, all, all, nil},
		{"Xor", region.Xor, odd, rows, even},
		{"Xor", region.Xor, even, odd, rows},
	} {
		if r, e := c.call(c.a, c.b); e != api.OK || !slices.Equal(r, c.want) {
			t.Error(c.name, len(c.a), len(c.b), len(r), e)
		}
	}
}

// P140: the cells of a list, in any order and any number of times.
func TestOf(t *testing.T) {
	p := picker{2}
	for _, s := range sets() {
		cells, want := s.cells(), s.runs()
		list := slices.Concat(cells, cells[:len(cells)/2], cells)
		for range 3 {
			for i := range list {
				j := p.below(i + 1)
				list[i], list[j] = list[j], list[i]
			}
			if r, e := region.Of(list); e != api.OK || !slices.Equal(r, want) {
				t.Fatal(list, r, e)
			}
		}
	}
	for _, l := range [][]api.Point{nil, {}} {
		if r, e := region.Of(l); e != api.OK || len(r) != 0 {
			t.Error(l, r, e)
		}
	}
}

// P140: cells that are not permitted, wherever they are in the list.
func TestOfErrors(t *testing.T) {
	for _, n := range append(beyond, most) {
		for _, cell := range []api.Point{{X: n}, {Y: n}, {X: n, Y: n}, {X: n, Y: most - 1}, {X: least, Y: n}} {
			for _, l := range [][]api.Point{{cell}, {cell, {}}, {{}, cell}, {{X: 1}, {X: 2}, cell, {X: 3}}} {
				if r, e := region.Of(l); e != api.ErrRange || len(r) != 0 {
					t.Error(l, r, e)
				}
			}
		}
	}
}

// P140: the cells of rectangles, also of those that reach the ends or have no cells.
func TestRectangle(t *testing.T) {
	sides := [][2]int{{0, 0}, {0, 1}, {-3, 4}, {2, 5}, {least, least}, {least, least + 2}, {most - 2, most}, {most, most}}
	for _, x := range sides {
		for _, y := range sides {
			s := set{}
			for row := y[0]; row < y[1]; row++ {
				for column := x[0]; column < x[1]; column++ {
					s[api.Point{X: column, Y: row}] = true
				}
			}
			if r, e := region.Rectangle(x[0], y[0], x[1], y[1]); e != api.OK || !slices.Equal(r, s.runs()) {
				t.Error(x, y, r, e)
			}
		}
	}
	if r, e := region.Rectangle(least, least, most, most); e != api.OK || !slices.Equal(r, plane()) {
		t.Error(len(r), e)
	}
	for _, c := range [][4]int{{least, 0, most, 0}, {0, least, 0, most}, {7, 7, 7, 7}} {
		if r, e := region.Rectangle(c[0], c[1], c[2], c[3]); e != api.OK || len(r) != 0 {
			t.Error(c, r, e)
		}
	}
}

// P140: arguments that are not permitted; the range comes before the order.
func TestRectangleErrors(t *testing.T) {
	for _, n := range beyond {
		for _, c := range [][4]int{{n, 0, 4, 2}, {0, n, 4, 2}, {0, 0, n, 2}, {0, 0, 4, n}, {9, 9, 0, n}, {n, 9, 0, 0}, {9, n, 0, 9}, {0, 9, n, 0}, {n, n, n, n}, {n, 0, n, 0}} {
			if r, e := region.Rectangle(c[0], c[1], c[2], c[3]); e != api.ErrRange || len(r) != 0 {
				t.Error(c, r, e)
			}
		}
	}
	for _, c := range [][4]int{{1, 0, 0, 1}, {0, 1, 1, 0}, {1, 1, 0, 0}, {1, 0, 0, 0}, {0, 1, 0, 0}, {most, 0, least, 1}, {0, most, 1, least}, {most, most, most - 1, most}} {
		if r, e := region.Rectangle(c[0], c[1], c[2], c[3]); e != api.ErrOrder || len(r) != 0 {
			t.Error(c, r, e)
		}
	}
}

// P141: the cells of a region, those around them, and numbers of any size.
func TestHas(t *testing.T) {
	eachSubset(func(s set, r []api.Run) {
		for cell := range s {
			for y := cell.Y - 1; y <= cell.Y+1; y++ {
				for x := cell.X - 1; x <= cell.X+1; x++ {
					if has, e := region.Has(r, x, y); has != s[api.Point{X: x, Y: y}] || e != api.OK {
						t.Fatal(r, x, y, has, e)
					}
				}
			}
		}
	})
	for _, r := range [][]api.Run{nil, {{Y: 0, X0: 0, X1: 1}}, plane()} {
		for _, n := range append(beyond, most) {
			for _, cell := range []api.Point{{X: n}, {Y: n}, {X: n, Y: n}} {
				if has, e := region.Has(r, cell.X, cell.Y); has || e != api.OK {
					t.Error(len(r), cell, has, e)
				}
			}
		}
	}
}

// P141: the number of cells, up to that of all permitted cells.
func TestArea(t *testing.T) {
	eachSubset(func(s set, r []api.Run) {
		if n, e := region.Area(r); n != len(s) || e != api.OK {
			t.Fatal(r, n, e)
		}
	})
	for _, s := range sets() {
		if n, e := region.Area(s.runs()); n != len(s) || e != api.OK {
			t.Fatal(s.runs(), n, e)
		}
	}
	if n, e := region.Area(plane()); n != 1<<28 || e != api.OK {
		t.Error(n, e)
	}
}

// P141: the least rectangle that contains all cells.
func TestBounds(t *testing.T) {
	list := sets()
	eachSubset(func(s set, r []api.Run) { list = append(list, s) })
	for _, s := range list {
		if len(s) == 0 {
			continue
		}
		var xs, ys []int
		for cell := range s {
			xs, ys = append(xs, cell.X), append(ys, cell.Y)
		}
		p, q, e := region.Bounds(s.runs())
		if p != (api.Point{X: slices.Min(xs), Y: slices.Min(ys)}) || q != (api.Point{X: slices.Max(xs) + 1, Y: slices.Max(ys) + 1}) || e != api.OK {
			t.Fatal(s.runs(), p, q, e)
		}
	}
	if p, q, e := region.Bounds(plane()); p != (api.Point{X: least, Y: least}) || q != (api.Point{X: most, Y: most}) || e != api.OK {
		t.Error(p, q, e)
	}
	for _, r := range [][]api.Run{nil, {}} {
		if p, q, e := region.Bounds(r); p != (api.Point{}) || q != (api.Point{}) || e != api.ErrNone {
			t.Error(p, q, e)
		}
	}
}

// shifted returns the permitted ones among the shifted cells of a set.
func shifted(s set, dx, dy int) set {
	result := set{}
	for cell := range s {
		x, y := cell.X+dx, cell.Y+dy
		if least <= x && x < most && least <= y && y < most {
			result[api.Point{X: x, Y: y}] = true
		}
	}
	return result
}

// P142: all cells are shifted, and those that are not permitted are omitted.
func TestShift(t *testing.T) {
	distances := []int{0, 1, -3, 100, most - 7, least + 5, most, least, 2*most - 6, 2*least + 6, 2*most - 1, 2*least + 1, 2 * most, 2 * least}
	list := sets()
	for _, layout := range layouts {
		list = append(list, subset(layout, 255))
	}
	for _, s := range list {
		for _, dx := range distances {
			for _, dy := range distances {
				want := shifted(s, dx, dy).runs()
				if r, e := region.Shift(s.runs(), dx, dy); e != api.OK || !slices.Equal(r, want) {
					t.Fatal(s.runs(), dx, dy, r, e)
				}
			}
		}
	}
}

// P142: regions that reach from one end to the other.
func TestShiftPlane(t *testing.T) {
	for _, c := range []struct{ dx, dy, x0, y0, x1, y1 int }{
		{0, 0, least, least, most, most},
		{1, 0, least + 1, least, most, most},
		{0, -1, least, least, most, most - 1},
		{-5, 7, least, least + 7, most - 5, most},
		{2*most - 1, 0, most - 1, least, most, most},
		{2*least + 1, 2*least + 1, least, least, least + 1, least + 1},
		{2 * most, 0, 0, 0, 0, 0},
		{0, 2 * least, 0, 0, 0, 0},
		{2 * least, 2 * most, 0, 0, 0, 0},
	} {
		want, _ := region.Rectangle(c.x0, c.y0, c.x1, c.y1)
		if r, e := region.Shift(plane(), c.dx, c.dy); e != api.OK || !slices.Equal(r, want) {
			t.Error(c, len(r), e)
		}
	}
}

// P142: distances that are not permitted, also for a region without cells.
func TestShiftErrors(t *testing.T) {
	for _, n := range []int{2*most + 1, 2*least - 1, 1 << 32, -1 << 32, 1 << 62, math.MaxInt, math.MinInt, math.MinInt + 1} {
		for _, r := range [][]api.Run{nil, {{Y: 0, X0: 0, X1: 1}}, {{Y: 0, X0: least, X1: most}, {Y: 1, X0: 2, X1: 3}}} {
			for _, d := range [][2]int{{n, 0}, {0, n}, {n, n}, {n, 2 * most}, {2 * least, n}} {
				if s, e := region.Shift(r, d[0], d[1]); e != api.ErrRange || len(s) != 0 {
					t.Error(r, d, s, e)
				}
			}
		}
	}
}

// P143: the cells row by row.
func TestCells(t *testing.T) {
	list := sets()
	eachSubset(func(s set, r []api.Run) { list = append(list, s) })
	for _, s := range list {
		if got := slices.Collect(region.Cells(s.runs())); !slices.Equal(got, s.cells()) {
			t.Fatal(s.runs(), got)
		}
	}
	count := 0
	for cell := range region.Cells([]api.Run{{Y: most - 1, X0: least, X1: most}}) {
		if cell != (api.Point{X: least + count, Y: most - 1}) {
			t.Fatal(count, cell)
		}
		count++
	}
	if count != most-least {
		t.Error(count)
	}
}

// collect returns the rows of a region, stopped after the given number of them.
func collect(sequence iter.Seq2[int, []api.Run], number int) (ys []int, rows [][]api.Run) {
	for y, row := range sequence {
		ys, rows = append(ys, y), append(rows, row)
		if len(ys) == number {
			break
		}
	}
	return ys, rows
}

// P143: the rows that have cells, with all their runs.
func TestRows(t *testing.T) {
	list := sets()
	eachSubset(func(s set, r []api.Run) { list = append(list, s) })
	for _, s := range list {
		ys, rows := collect(region.Rows(s.runs()), -1)
		var want []int
		for _, cell := range s.cells() {
			want = append(want, cell.Y)
		}
		if !slices.Equal(ys, slices.Compact(want)) || !slices.Equal(slices.Concat(rows...), s.runs()) {
			t.Fatal(s.runs(), ys, rows)
		}
		for i, row := range rows {
			if len(row) == 0 || slices.ContainsFunc(row, func(run api.Run) bool { return run.Y != ys[i] }) {
				t.Fatal(s.runs(), ys, rows)
			}
		}
	}
}

// P1 and P143: sequences may be stopped anywhere, and run again.
func TestSequencesAgain(t *testing.T) {
	r := []api.Run{{Y: -1, X0: 0, X1: 2}, {Y: -1, X0: 3, X1: 4}, {Y: 5, X0: least, X1: least + 3}, {Y: 6, X0: 9, X1: 10}}
	cells, rows := region.Cells(r), region.Rows(r)
	all, first := slices.Collect(cells), []int{-1, 5, 6}
	if len(all) != 7 {
		t.Fatal(all)
	}
	for number := 1; number <= len(all); number++ {
		var part []api.Point
		for cell := range cells {
			part = append(part, cell)
			if len(part) == number {
				break
			}
		}
		if !slices.Equal(part, all[:number]) || !slices.Equal(slices.Collect(cells), all) {
			t.Error(number, part)
		}
	}
	for number := 1; number <= len(first); number++ {
		if part, _ := collect(rows, number); !slices.Equal(part, first[:number]) {
			t.Error(number, part)
		}
		if again, _ := collect(rows, -1); !slices.Equal(again, first) {
			t.Error(number, again)
		}
	}
	for range rows {
		for range rows {
			if again := slices.Collect(cells); !slices.Equal(again, all) {
				t.Error(again)
			}
		}
	}
}

// whole returns a slice with its unused capacity.
func whole(r []api.Run) []api.Run {
	return r[:cap(r)]
}

// overwrite fills a slice, with its unused capacity.
func overwrite(r []api.Run) {
	for i := range whole(r) {
		whole(r)[i] = unlikely
	}
}

// P2 and P143: each row is newly allocated, with its unused capacity.
func TestRowsAreNew(t *testing.T) {
	long := []api.Run{{Y: 0, X0: 0, X1: 1}, {Y: 0, X0: 2, X1: 3}, {Y: 1, X0: 0, X1: 1}, {Y: 2, X0: 0, X1: 1}, {Y: 2, X0: 4, X1: 5}, unlikely, unlikely}
	before := slices.Clone(long)
	r := long[:5]
	var rows [][]api.Run
	for y, row := range region.Rows(r) {
		for _, earlier := range rows {
			if slices.ContainsFunc(whole(earlier), func(run api.Run) bool { return run != unlikely }) {
				t.Error("shared by rows", y)
			}
		}
		overwrite(row)
		rows = append(rows, row)
	}
	if len(rows) != 3 || !slices.Equal(long, before) {
		t.Error(rows, long)
	}
}

// results returns the regions that the functions make of two regions.
func results(a, b []api.Run) [][]api.Run {
	of, _ := region.Of(slices.Collect(region.Cells(a)))
	rectangle, _ := region.Rectangle(1, 2, 3, 4)
	same, _ := region.Shift(a, 0, 0)
	apart, _ := region.Shift(a, 3, -2)
	list := [][]api.Run{of, rectangle, same, apart}
	for _, o := range operations() {
		for _, second := range [][]api.Run{a, b, nil} {
			r, _ := o.call(a, second)
			s, _ := o.call(second, a)
			list = append(list, r, s)
		}
	}
	return list
}

// P2: results are equal for equal arguments, arguments keep their runs and their unused capacity, and nothing is shared.
func TestArgumentsAndResults(t *testing.T) {
	list := sets()
	for i := range list {
		// Behind the regions there are further runs.
		longA, longB := append(list[i].runs(), unlikely, unlikely), append(list[len(list)-1-i].runs(), unlikely, unlikely)
		beforeA, beforeB := slices.Clone(whole(longA)), slices.Clone(whole(longB))
		a, b := longA[:len(longA)-2], longB[:len(longB)-2]
		first, second := results(a, b), results(a, b)
		for j := range first {
			if !slices.Equal(first[j], second[j]) {
				t.Fatal("not equal", j, a, b)
			}
			kept := slices.Clone(second[j])
			overwrite(first[j])
			if !slices.Equal(second[j], kept) {
				t.Fatal("shared by results", j, a, b)
			}
		}
		region.Check(a)
		region.Has(a, 0, 0)
		region.Area(a)
		region.Bounds(a)
		if !slices.Equal(whole(longA), beforeA) || !slices.Equal(whole(longB), beforeB) {
			t.Fatal("an argument was changed, or is shared", a, b)
		}
	}
}

// P2: the list of cells keeps its order and its unused capacity.
func TestOfKeepsList(t *testing.T) {
	long := []api.Point{{X: 5}, {X: 3, Y: 1}, {X: 4}, {X: 5}, {X: -1, Y: -1}, {X: 8, Y: -9}, {X: 7, Y: -9}}
	before := slices.Clone(long)
	if r, e := region.Of(long[:5]); e != api.OK || !slices.Equal(r, setOf(long[:5]...).runs()) || !slices.Equal(long, before) {
		t.Error(r, e, long)
	}
}
