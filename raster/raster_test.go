package raster_test

import (
	"iter"
	"math"
	"slices"
	"testing"

	"printworks/api"
	"printworks/raster"
)

// The signatures are those of the chapter.
var (
	_ func(int, int, string) (raster.Grid[string], api.Errno)                          = raster.Make[string]
	_ func(api.Plate) raster.Grid[uint8]                                               = raster.Of
	_ func(raster.Grid[uint8]) api.Plate                                               = raster.Plate
	_ func(raster.Grid[int], func(int) string) (raster.Grid[string], api.Errno)        = raster.Map[int, string]
	_ func(raster.Grid[int]) api.Errno                                                 = raster.Grid[int].Check
	_ func(raster.Grid[int], int, int) (int, api.Errno)                                = raster.Grid[int].At
	_ func(raster.Grid[int], int, int, int, int) (raster.Grid[int], api.Errno)         = raster.Grid[int].Crop
	_ func(raster.Grid[int], int, int, raster.Grid[int]) (raster.Grid[int], api.Errno) = raster.Grid[int].Paste
	_ func(raster.Grid[int], int) (raster.Grid[int], api.Errno)                        = raster.Grid[int].Turn
	_ func(raster.Grid[int]) (raster.Grid[int], api.Errno)                             = raster.Grid[int].Mirror
	_ func(raster.Grid[int]) iter.Seq[[]int]                                           = raster.Grid[int].Rows
)

const most = api.MaxSheet

// unlikely fills the unused capacity of arguments.
const unlikely = -77

// numbered returns a raster of different numbers from first on, whose slice has unused capacity.
func numbered(w, h, first int) raster.Grid[int] {
	all := make([]int, w*h+5)
	for i := range all {
		all[i] = first + i
		if i >= w*h {
			all[i] = unlikely
		}
	}
	return raster.Grid[int]{W: w, H: h, Pix: all[:w*h]}
}

// shapes has the sizes of small rasters, and of narrow ones with the longest sides.
var shapes = [][2]int{{1, 1}, {1, 2}, {2, 1}, {3, 2}, {2, 3}, {4, 4}, {5, 3}, {1, most}, {most, 1}}

// notSides has numbers that are not a number of columns or rows.
var notSides = []int{0, -1, -2, -most, most + 1, 2 * most, 1 << 32, 1 << 62, math.MaxInt, math.MinInt, math.MinInt + 1}

// invalidGrid is a raster with the error that Check finds in it.
type invalidGrid struct {
	g raster.Grid[int]
	e api.Errno
}

func invalid() map[string]invalidGrid {
	return map[string]invalidGrid{
		"none":        {raster.Grid[int]{}, api.ErrRange},
		"no pixels":   {raster.Grid[int]{W: 2, H: 2}, api.ErrForm},
		"one missing": {raster.Grid[int]{W: 2, H: 2, Pix: []int{1, 2, 3}}, api.ErrForm},
		"one more":    {raster.Grid[int]{W: 2, H: 2, Pix: []int{1, 2, 3, 4, 5}}, api.ErrForm},
		"capacity":    {raster.Grid[int]{W: 2, H: 2, Pix: make([]int, 3, 4)}, api.ErrForm},
		"both signs":  {raster.Grid[int]{W: -2, H: -2, Pix: []int{1, 2, 3, 4}}, api.ErrRange},
		"too wide":    {raster.Grid[int]{W: most + 1, H: 1, Pix: make([]int, most+1)}, api.ErrRange},
		"too high":    {raster.Grid[int]{W: 1, H: most + 1, Pix: make([]int, most+1)}, api.ErrRange},
		"overflow":    {raster.Grid[int]{W: 1 << 32, H: 1 << 32}, api.ErrRange},
		"zero high":   {raster.Grid[int]{W: 1, H: 0}, api.ErrRange},
		"zero wide":   {raster.Grid[int]{W: 0, H: 1}, api.ErrRange},
		"both wrong":  {raster.Grid[int]{W: 0, H: 1, Pix: []int{1}}, api.ErrRange},
	}
}

func isNone[T any](g raster.Grid[T]) bool {
	return g.W == 0 && g.H == 0 && len(g.Pix) == 0
}

// checkPixels compares a result with the pixels that a rule gives.
func checkPixels(t *testing.T, name string, g raster.Grid[int], e api.Errno, w, h int, want func(x, y int) int) {
	t.Helper()
	if e != api.OK || g.W != w || g.H != h || len(g.Pix) != w*h {
		t.Fatalf("%s has %d columns, %d rows, %d pixels and the error %d", name, g.W, g.H, len(g.Pix), e)
	}
	for y := range h {
		for x := range w {
			if got := g.Pix[y*w+x]; got != want(x, y) {
				t.Fatalf("%s has %d at (%d, %d) instead of %d", name, got, x, y, want(x, y))
			}
		}
	}
}

// P108: all pixels have the value, for any type and up to the largest raster.
func TestMake(t *testing.T) {
	for _, shape := range append(shapes, [2]int{most, most}) {
		g, e := raster.Make(shape[0], shape[1], 7)
		checkPixels(t, "Make", g, e, shape[0], shape[1], func(x, y int) int { return 7 })
	}
	type pair struct {
		name string
		on   bool
	}
	if g, e := raster.Make(2, 1, pair{"a", true}); e != api.OK || !slices.Equal(g.Pix, []pair{{"a", true}, {"a", true}}) {
		t.Error(g, e)
	}
	if g, e := raster.Make(1, 2, struct{}{}); e != api.OK || len(g.Pix) != 2 || g.Check() != api.OK {
		t.Error(g, e)
	}
	for _, n := range notSides {
		for _, other := range append(notSides, 1, most) {
			for _, c := range [][2]int{{n, other}, {other, n}} {
				if g, e := raster.Make(c[0], c[1], 'x'); e != api.ErrRange || !isNone(g) {
					t.Error(c, g, e)
				}
			}
		}
	}
}

// P108: plates and rasters are copied into each other, also if they are not valid.
func TestOfAndPlate(t *testing.T) {
	for _, p := range []api.Plate{
		{W: 1, H: 2, Pix: []uint8{3, 4}}, {W: 2, H: 1, Pix: []uint8{0, 255}}, {}, {W: 5, H: -6}, {Pix: []uint8{}},
		{W: math.MaxInt, H: math.MinInt, Pix: []uint8{1, 2, 3}},
	} {
		pix := slices.Clone(p.Pix)
		g := raster.Of(p)
		if g.W != p.W || g.H != p.H || !slices.Equal(g.Pix, pix) {
			t.Error(p, g)
		}
		q := raster.Plate(g)
		if q.W != p.W || q.H != p.H || !slices.Equal(q.Pix, pix) {
			t.Error(p, q)
		}
		overwrite(q.Pix, 99)
		if !slices.Equal(g.Pix, pix) {
			t.Error("the plate shares memory with the raster", p)
		}
		overwrite(g.Pix, 98)
		if !slices.Equal(p.Pix, pix) {
			t.Error("the raster shares memory with the plate", p)
		}
	}
}

// overwrite fills a slice, with its unused capacity.
func overwrite[T any](list []T, v T) {
	list = list[:cap(list)]
	for i := range list {
		list[i] = v
	}
}

// P109: the errors of rasters.
func TestCheck(t *testing.T) {
	for _, shape := range append(shapes, [2]int{most, most}) {
		if e := numbered(shape[0], shape[1], 1).Check(); e != api.OK {
			t.Error(shape, e)
		}
	}
	for name, c := range invalid() {
		if e := c.g.Check(); e != c.e {
			t.Error(name, e)
		}
	}
	for _, n := range notSides {
		for _, g := range []raster.Grid[int]{{W: n, H: 1}, {W: 1, H: n}, {W: n, H: n}, {W: n, H: 1, Pix: []int{1}}} {
			if e := g.Check(); e != api.ErrRange {
				t.Error(g, e)
			}
		}
	}
}

// P109: the error of Check comes first, also if the other arguments are not permitted.
func TestInvalidRasters(t *testing.T) {
	valid := numbered(2, 2, 1)
	for name, c := range invalid() {
		for _, n := range []int{0, -1, most + 1, math.MinInt} {
			if v, e := c.g.At(n, n); v != 0 || e != c.e {
				t.Error(name, "At", v, e)
			}
			if g, e := c.g.Crop(n, n, 1, n); !isNone(g) || e != c.e {
				t.Error(name, "Crop", g, e)
			}
			if g, e := c.g.Paste(n, n, valid); !isNone(g) || e != c.e {
				t.Error(name, "Paste", g, e)
			}
			if g, e := valid.Paste(n, n, c.g); !isNone(g) || e != c.e {
				t.Error(name, "Paste of", g, e)
			}
			if g, e := c.g.Turn(n); !isNone(g) || e != c.e {
				t.Error(name, "Turn", g, e)
			}
		}
		if g, e := c.g.Mirror(); !isNone(g) || e != c.e {
			t.Error(name, "Mirror", g, e)
		}
		calls := 0
		if g, e := raster.Map(c.g, func(v int) int { calls++; return v }); !isNone(g) || e != c.e || calls != 0 {
			t.Error(name, "Map", g, e, calls)
		}
		if g, e := raster.Map[int, int](c.g, nil); !isNone(g) || e != c.e {
			t.Error(name, "Map without a function", g, e)
		}
		for row := range c.g.Rows() {
			t.Error(name, "Rows", row)
		}
	}
}

// P112: the error of the raster comes before that of the one that is pasted.
func TestPasteTwoInvalid(t *testing.T) {
	for name, c := range invalid() {
		for other, d := range invalid() {
			if g, e := c.g.Paste(0, 0, d.g); !isNone(g) || e != c.e {
				t.Error(name, other, g, e)
			}
		}
	}
}

// P110: each pixel, and places outside.
func TestAt(t *testing.T) {
	for _, shape := range shapes {
		g := numbered(shape[0], shape[1], 1)
		for y := range g.H {
			for x := range g.W {
				if v, e := g.At(x, y); v != 1+y*g.W+x || e != api.OK {
					t.Fatal(shape, x, y, v, e)
				}
			}
		}
		for _, c := range [][2]int{
			{-1, 0}, {0, -1}, {g.W, 0}, {0, g.H}, {g.W, g.H - 1}, {g.W - 1, g.H}, {-1, g.H - 1}, {-1, 1}, {-1, -1}, {g.W, -1}, {g.W, g.H},
			{math.MinInt, 0}, {0, math.MinInt}, {math.MaxInt, 0}, {0, math.MaxInt}, {math.MaxInt, math.MaxInt}, {1 << 32, 1 << 32}, {-g.W, 1},
		} {
			if v, e := g.At(c[0], c[1]); v != 0 || e != api.ErrRange {
				t.Error(shape, c, v, e)
			}
		}
	}
}

// P111: all parts of small rasters, and parts that are empty or not inside.
func TestCrop(t *testing.T) {
	for _, shape := range [][2]int{{1, 1}, {1, 3}, {3, 1}, {3, 2}, {4, 4}} {
		g := numbered(shape[0], shape[1], 1)
		for x := -3; x <= g.W+1; x++ {
			for y := -3; y <= g.H+1; y++ {
				for w := -2; w <= g.W+3; w++ {
					for h := -2; h <= g.H+3; h++ {
						checkCrop(t, g, x, y, w, h)
					}
				}
			}
		}
	}
}

// checkCrop compares without sums that may be too large for an int.
func checkCrop(t *testing.T, g raster.Grid[int], x, y, w, h int) {
	t.Helper()
	part, e := g.Crop(x, y, w, h)
	if w >= 1 && h >= 1 && w <= g.W && h <= g.H && x >= 0 && y >= 0 && x <= g.W-w && y <= g.H-h {
		checkPixels(t, "Crop", part, e, w, h, func(i, j int) int { return g.Pix[(y+j)*g.W+x+i] })
		return
	}
	if e != api.ErrRange || !isNone(part) {
		t.Fatal(g.W, g.H, x, y, w, h, part.W, part.H, e)
	}
}

// P111: the largest part is the raster, and numbers whose sum is not an int are outside.
func TestCropFar(t *testing.T) {
	g := numbered(most, 3, 1)
	part, e := g.Crop(0, 0, most, 3)
	checkPixels(t, "Crop", part, e, most, 3, func(x, y int) int { return g.Pix[y*most+x] })
	part, e = g.Crop(most-1, 2, 1, 1)
	checkPixels(t, "Crop", part, e, 1, 1, func(x, y int) int { return 3 * most })
	far := []int{math.MaxInt, math.MinInt, math.MinInt + 1, 1 << 62, -1 << 62, 1 << 32, most}
	for _, n := range far {
		for _, other := range append(far, 0, 1, -1) {
			for _, c := range [][4]int{{n, 0, other, 1}, {other, 0, n, 4}, {0, n, 1, other}, {0, other, 1, n}, {n, 1, most, 1}, {1, n, 1, 3}} {
				checkCrop(t, g, c[0], c[1], c[2], c[3])
			}
		}
	}
}

// pasted returns the pixel that is at (i, j) after p was pasted at (x, y).
func pasted(g, p raster.Grid[int], x, y, i, j int) int {
	if i >= x && i < x+p.W && j >= y && j < y+p.H {
		return p.Pix[(j-y)*p.W+i-x]
	}
	return g.Pix[j*g.W+i]
}

// P112: pixels are replaced where both rasters are; other pixels are omitted.
func TestPaste(t *testing.T) {
	for _, shape := range [][2]int{{1, 1}, {3, 2}, {4, 4}, {2, 5}} {
		for _, other := range [][2]int{{1, 1}, {1, 3}, {3, 1}, {2, 2}, {6, 7}} {
			g, p := numbered(shape[0], shape[1], 1), numbered(other[0], other[1], 1000)
			for x := -p.W - 2; x <= g.W+2; x++ {
				for y := -p.H - 2; y <= g.H+2; y++ {
					q, e := g.Paste(x, y, p)
					checkPixels(t, "Paste", q, e, g.W, g.H, func(i, j int) int { return pasted(g, p, x, y, i, j) })
				}
			}
		}
	}
}

// P112: the ends of the range, with rasters that reach from one end to the other.
func TestPasteFar(t *testing.T) {
	wide, narrow := numbered(most, 2, 1), numbered(1, 1, 5000)
	offsets := []int{-most, -most + 1, -1, 0, 1, most - 1, most}
	for _, x := range offsets {
		for _, y := range []int{-1, 0, 1} {
			for _, pair := range [][2]raster.Grid[int]{{wide, narrow}, {narrow, wide}, {wide, wide}} {
				g, p := pair[0], pair[1]
				q, e := g.Paste(x, y, p)
				checkPixels(t, "Paste", q, e, g.W, g.H, func(i, j int) int { return pasted(g, p, x, y, i, j) })
			}
		}
	}
	high := numbered(1, most, 1)
	for _, y := range offsets {
		q, e := high.Paste(0, y, high)
		checkPixels(t, "Paste", q, e, 1, most, func(i, j int) int { return pasted(high, high, 0, y, i, j) })
	}
	for _, n := range []int{most + 1, -most - 1, math.MaxInt, math.MinInt, 1 << 32} {
		for _, other := range append(offsets, most+1, math.MinInt) {
			for _, c := range [][2]int{{n, other}, {other, n}} {
				if q, e := wide.Paste(c[0], c[1], narrow); e != api.ErrRange || !isNone(q) {
					t.Error(c, q.W, q.H, e)
				}
			}
		}
	}
}

// P113: the example of the chapter.
func TestTurnExample(t *testing.T) {
	g := raster.Grid[int]{W: 3, H: 2, Pix: []int{1, 2, 3, 4, 5, 6}}
	if q, e := g.Turn(1); e != api.OK || q.W != 2 || q.H != 3 || !slices.Equal(q.Pix, []int{4, 1, 5, 2, 6, 3}) {
		t.Error(q, e)
	}
}

// turnedOnce returns a raster after one quarter turn, by the words of the chapter.
func turnedOnce(g raster.Grid[int]) raster.Grid[int] {
	q := raster.Grid[int]{W: g.H, H: g.W, Pix: make([]int, len(g.Pix))}
	for y := range g.H {
		for x := range g.W {
			q.Pix[x*q.W+g.H-1-y] = g.Pix[y*g.W+x]
		}
	}
	return q
}

// P113: any number of quarter turns is its remainder of 0 to 3.
func TestTurn(t *testing.T) {
	for _, shape := range append(shapes, [2]int{37, 90}) {
		g := numbered(shape[0], shape[1], 1)
		want := g
		for k := range 4 {
			for _, times := range []int{k, k + 4, k - 4, k - 8, k + 400, k - 400, math.MinInt + k, math.MaxInt - 3 + k, k + 1<<32, k - 1<<32} {
				q, e := g.Turn(times)
				checkPixels(t, "Turn", q, e, want.W, want.H, func(x, y int) int { return want.Pix[y*want.W+x] })
			}
			want = turnedOnce(want)
		}
	}
}

// P113: the columns are in reverse order.
func TestMirror(t *testing.T) {
	for _, shape := range append(shapes, [2]int{37, 90}) {
		g := numbered(shape[0], shape[1], 1)
		q, e := g.Mirror()
		checkPixels(t, "Mirror", q, e, g.W, g.H, func(x, y int) int { return g.Pix[y*g.W+g.W-1-x] })
	}
}

// P114: the function is called once for each pixel, row by row.
func TestMap(t *testing.T) {
	for _, shape := range shapes {
		g := numbered(shape[0], shape[1], 1)
		var seen []int
		q, e := raster.Map(g, func(v int) string {
			seen = append(seen, v)
			return string(rune('a' + (v+len(seen))%26))
		})
		if e != api.OK || q.W != g.W || q.H != g.H || len(q.Pix) != len(g.Pix) || !slices.Equal(seen, g.Pix) {
			t.Fatal(shape, q.W, q.H, e, len(seen))
		}
		for i, v := range g.Pix {
			if q.Pix[i] != string(rune('a'+(v+i+1)%26)) {
				t.Fatal(shape, i, v, q.Pix[i])
			}
		}
	}
}

// P1: a function that cannot be called is not permitted.
func TestMapWithoutFunction(t *testing.T) {
	if q, e := raster.Map[int, string](numbered(2, 2, 1), nil); e != api.ErrArg || !isNone(q) {
		t.Error(q, e)
	}
}

// P114: the rows from above to below.
func TestRows(t *testing.T) {
	for _, shape := range append(shapes, [2]int{37, 90}) {
		g := numbered(shape[0], shape[1], 1)
		y := 0
		for row := range g.Rows() {
			if y >= g.H || !slices.Equal(row, g.Pix[y*g.W:(y+1)*g.W]) {
				t.Fatal(shape, y, row)
			}
			y++
		}
		if y != g.H {
			t.Error(shape, y)
		}
	}
}

// P1 and P114: a sequence may be stopped at any row, and run again.
func TestRowsAgain(t *testing.T) {
	g := numbered(3, 4, 1)
	rows := g.Rows()
	for stop := range 5 {
		y := 0
		for row := range rows {
			if !slices.Equal(row, g.Pix[y*3:y*3+3]) {
				t.Error(stop, y, row)
			}
			if y == stop {
				break
			}
			y++
		}
		if y != stop {
			t.Error(stop, y)
		}
	}
}

// P2 and P114: each row is newly allocated, with its unused capacity.
func TestRowsAreNew(t *testing.T) {
	g := numbered(3, 4, 1)
	rows := g.Rows()
	first := slices.Collect(rows)
	second := slices.Collect(rows)
	for y := range first {
		overwrite(first[y], unlikely)
		for later := y + 1; later < len(first); later++ {
			if !slices.Equal(first[later], second[later]) {
				t.Error("a row shares memory with another one", y, later)
			}
		}
	}
	if !slices.Equal(slices.Concat(second...), g.Pix) || !isAsNumbered(g, 1) {
		t.Error("a row shares memory with the raster or with a row of another run")
	}
}

// isAsNumbered tells whether a raster and its unused capacity are as numbered made them.
func isAsNumbered(g raster.Grid[int], first int) bool {
	fresh := numbered(g.W, g.H, first)
	return slices.Equal(g.Pix[:len(g.Pix)+5], fresh.Pix[:len(fresh.Pix)+5])
}

// results returns the rasters that the functions make of two rasters.
func results(g, p raster.Grid[int]) []raster.Grid[int] {
	var list []raster.Grid[int]
	keep := func(q raster.Grid[int], e api.Errno) {
		if e == api.OK {
			list = append(list, q)
		}
	}
	for _, n := range []int{-most, -2, -1, 0, 1, 2, 3, 4, most} {
		keep(g.Turn(n))
		keep(g.Paste(n, n, p))
		keep(g.Paste(0, n, g))
		keep(g.Crop(n, 0, 1, g.H))
		keep(g.Crop(0, n, g.W, 1))
	}
	keep(g.Crop(0, 0, g.W, g.H))
	keep(g.Mirror())
	keep(raster.Map(g, func(v int) int { return v }))
	keep(raster.Make(g.W, g.H, g.W))
	return list
}

// P2: results are equal for equal arguments, arguments keep their pixels and their unused capacity, and nothing is shared.
func TestArgumentsAndResults(t *testing.T) {
	for _, shape := range shapes {
		g, p := numbered(shape[0], shape[1], 1), numbered(2, 2, 7000)
		first, second := results(g, p), results(g, p)
		if len(first) < 15 || len(second) != len(first) {
			t.Fatal(shape, len(first), len(second))
		}
		for i, q := range first {
			pix := slices.Clone(q.Pix)
			overwrite(q.Pix, unlikely)
			if q.W != second[i].W || q.H != second[i].H || !slices.Equal(pix, second[i].Pix) {
				t.Error("not equal, or shared", shape, i)
			}
		}
		if !isAsNumbered(g, 1) || !isAsNumbered(p, 7000) {
			t.Error("an argument was changed", shape)
		}
	}
}
