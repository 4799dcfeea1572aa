package path_test

import (
	"math"
	"slices"
	"strconv"
	"strings"
	"testing"

	"printworks/affine"
	"printworks/api"
	"printworks/path"
)

// The signatures are those of the chapter.
var (
	_ func([]api.Seg) api.Errno                          = path.Check
	_ func([]api.Seg, api.Matrix) ([]api.Seg, api.Errno) = path.Map
	_ func([]api.Seg) ([]api.Seg, api.Errno)             = path.Reverse
	_ func([]api.Seg) (api.Point, api.Point, api.Errno)  = path.Bounds
	_ func([]api.Seg) (string, api.Errno)                = path.Text
	_ func(string) ([]api.Seg, api.Errno)                = path.Parse
	_ func(int, int, int, int) ([]api.Seg, api.Errno)    = path.Rectangle
)

const (
	most        = api.MaxCoord
	leastWeight = 16
	mostWeight  = 4096
	mostText    = 34980
)

// beyond has numbers that are no coordinates.
var beyond = []int{most + 1, -most - 1, 40000, -99999, 1 << 32, -1 << 32, math.MaxInt, math.MinInt, math.MinInt + 1}

// noWeights has numbers that are no weights.
var noWeights = []int{leastWeight - 1, mostWeight + 1, 0, -256, 1<<32 + 256, math.MaxInt, math.MinInt}

// noKinds has numbers that are no kinds of segments.
var noKinds = []int{0, 5, -1, 1<<32 + 1, math.MaxInt, math.MinInt}

func move(x, y int) api.Seg {
	return api.Seg{Kind: api.SegMove, X: x, Y: y}
}

func line(x, y int) api.Seg {
	return api.Seg{Kind: api.SegLine, X: x, Y: y}
}

func curve(u, v, x, y, w int) api.Seg {
	return api.Seg{Kind: api.SegCurve, X: x, Y: y, U: u, V: v, W: w}
}

func shut() api.Seg {
	return api.Seg{Kind: api.SegClose}
}

// repeated returns the path of n segments that begins with a SegMove and continues with s.
func repeated(n int, s api.Seg) []api.Seg {
	return append([]api.Seg{move(-most, -most)}, slices.Repeat([]api.Seg{s}, n-1)...)
}

// known has paths and their texts.
var known = []struct {
	p    []api.Seg
	text string
}{
	{nil, ""},
	{[]api.Seg{}, ""},
	{[]api.Seg{move(0, 0)}, "m 0 0"},
	{[]api.Seg{move(-3, 7), shut()}, "m -3 7 h"},
	{[]api.Seg{move(1, 2), move(3, 4)}, "m 1 2 m 3 4"},
	{[]api.Seg{move(1, 2), shut(), move(3, 4), shut()}, "m 1 2 h m 3 4 h"},
	{[]api.Seg{move(0, 0), line(4, 0), line(4, 2), line(0, 2), shut()}, "m 0 0 l 4 0 l 4 2 l 0 2 h"},
	{[]api.Seg{move(0, 0), line(0, 0)}, "m 0 0 l 0 0"},
	{[]api.Seg{move(100, 0), curve(100, 100, 0, 100, 181)}, "m 100 0 q 100 100 0 100 181"},
	{[]api.Seg{move(1, 2), curve(3, 4, 5, 6, 16), line(7, 8), curve(-9, 0, 10, -11, 4096), shut()}, "m 1 2 q 3 4 5 6 16 l 7 8 q -9 0 10 -11 4096 h"},
	{[]api.Seg{move(1, 1), line(2, 2), move(-10, 20), curve(30, 40, 50, 60, 300), shut(), move(5, 5), line(9, 9)}, "m 1 1 l 2 2 m -10 20 q 30 40 50 60 300 h m 5 5 l 9 9"},
	{[]api.Seg{move(most, -most), line(-most, most), curve(-most, -most, most, most, 256)}, "m 32767 -32767 l -32767 32767 q -32767 -32767 32767 32767 256"},
}

// picker gives numbers that follow a fixed rule.
type picker struct{ state uint64 }

func (p *picker) below(n int) int {
	p.state = p.state*6364136223846793005 + 1442695040888963407
	return int(p.state>>33) % n
}

// coord returns a coordinate; small ones and those near the ends of the range are frequent.
func (p *picker) coord() int {
	switch p.below(4) {
	case 0:
		return p.below(2*most+1) - most
	case 1:
		return most - p.below(3)
	case 2:
		return p.below(3) - most
	}
	return p.below(21) - 10
}

// path returns a valid path of n segments.
func (p *picker) path(n int) []api.Seg {
	var list []api.Seg
	for len(list) < n {
		kind := p.below(5)
		switch {
		case len(list) == 0 || list[len(list)-1].Kind == api.SegClose || kind == 0:
			list = append(list, move(p.coord(), p.coord()))
		case kind == 1:
			list = append(list, shut())
		case kind == 2:
			list = append(list, line(p.coord(), p.coord()))
		default:
			list = append(list, curve(p.coord(), p.coord(), p.coord(), p.coord(), leastWeight+p.below(mostWeight-leastWeight+1)))
		}
	}
	return list
}

// paths returns valid paths of all kinds.
func paths() [][]api.Seg {
	var list [][]api.Seg
	for _, k := range known {
		list = append(list, k.p)
	}
	p := picker{1}
	for n := range 400 {
		list = append(list, p.path(n%23))
	}
	return append(list, p.path(api.MaxSegs-1), p.path(api.MaxSegs))
}

// calls has a call of each function with a path; it tells whether the results are zero, and the error.
func calls(p []api.Seg) map[string]func() (bool, api.Errno) {
	return map[string]func() (bool, api.Errno){
		"Map": func() (bool, api.Errno) {
			q, e := path.Map(p, affine.Identity())
			return len(q) == 0, e
		},
		"Map by nothing": func() (bool, api.Errno) {
			q, e := path.Map(p, api.Matrix{A: math.MaxInt})
			return len(q) == 0, e
		},
		"Reverse": func() (bool, api.Errno) {
			q, e := path.Reverse(p)
			return len(q) == 0, e
		},
		"Bounds": func() (bool, api.Errno) {
			a, b, e := path.Bounds(p)
			return a == api.Point{} && b == api.Point{}, e
		},
		"Text": func() (bool, api.Errno) {
			s, e := path.Text(p)
			return s == "", e
		},
	}
}

// isRefused checks that Check returns an error, and the other functions do so first.
func isRefused(t *testing.T, p []api.Seg, want api.Errno) {
	t.Helper()
	if e := path.Check(p); e != want {
		t.Errorf("Check of %v: %v, not %v", p, e, want)
	}
	for name, call := range calls(p) {
		if zero, e := call(); e != want || !zero {
			t.Errorf("%v of %v: %v, not %v; zero: %v", name, p, e, want, zero)
		}
	}
}

// P124: valid paths, also one without segments.
func TestCheckValid(t *testing.T) {
	for _, p := range paths() {
		if e := path.Check(p); e != api.OK {
			t.Error(e, p)
		}
	}
	for _, w := range []int{leastWeight, leastWeight + 1, 256, mostWeight - 1, mostWeight} {
		if e := path.Check([]api.Seg{move(0, 0), curve(0, 0, 0, 0, w)}); e != api.OK {
			t.Error(e, w)
		}
	}
}

// P124: at most MaxSegs segments; this comes before all other errors.
func TestCheckLarge(t *testing.T) {
	for _, s := range []api.Seg{move(1, 1), line(1, 1), curve(1, 1, 1, 1, 16)} {
		if e := path.Check(repeated(api.MaxSegs, s)); e != api.OK {
			t.Error(e, s)
		}
		isRefused(t, repeated(api.MaxSegs+1, s), api.ErrLarge)
		isRefused(t, repeated(3*api.MaxSegs, s), api.ErrLarge)
	}
	isRefused(t, make([]api.Seg, api.MaxSegs+1), api.ErrLarge)
	isRefused(t, make([]api.Seg, api.MaxSegs), api.ErrKind)
}

// P124: the kinds.
func TestCheckKind(t *testing.T) {
	for _, kind := range noKinds {
		isRefused(t, []api.Seg{{Kind: kind}}, api.ErrKind)
		isRefused(t, []api.Seg{{Kind: kind, X: most + 1, W: 1}}, api.ErrKind)
		isRefused(t, []api.Seg{move(0, 0), {Kind: kind}}, api.ErrKind)
		isRefused(t, []api.Seg{move(0, 0), shut(), {Kind: kind, U: 1}}, api.ErrKind)
	}
}

// P124: a subpath begins with a SegMove.
func TestCheckOrder(t *testing.T) {
	for _, s := range []api.Seg{line(1, 1), curve(1, 1, 2, 2, 256), shut()} {
		isRefused(t, []api.Seg{s}, api.ErrOrder)
		isRefused(t, []api.Seg{s, move(0, 0)}, api.ErrOrder)
		isRefused(t, []api.Seg{move(0, 0), shut(), s}, api.ErrOrder)
		isRefused(t, []api.Seg{move(0, 0), line(1, 1), shut(), s, move(0, 0)}, api.ErrOrder)
		// The order is examined before the fields.
		s.W, s.X = 7, most+1
		isRefused(t, []api.Seg{s}, api.ErrOrder)
		isRefused(t, []api.Seg{move(0, 0), shut(), s}, api.ErrOrder)
	}
}

// P124: fields without a meaning are 0.
func TestCheckForm(t *testing.T) {
	for _, n := range []int{1, -1, 16, 256, most, math.MaxInt, math.MinInt} {
		for _, s := range []api.Seg{{U: n}, {V: n}, {W: n}, {U: n, V: n, W: n}} {
			for _, kind := range []int{api.SegMove, api.SegLine, api.SegClose} {
				s.Kind = kind
				isRefused(t, []api.Seg{move(0, 0), s}, api.ErrForm)
			}
			s.Kind = api.SegMove
			isRefused(t, []api.Seg{s}, api.ErrForm)
		}
		for _, s := range []api.Seg{{X: n}, {Y: n}} {
			s.Kind = api.SegClose
			isRefused(t, []api.Seg{move(0, 0), s}, api.ErrForm)
		}
		// The form is examined before the range.
		isRefused(t, []api.Seg{{Kind: api.SegMove, X: most + 1, W: n}}, api.ErrForm)
		isRefused(t, []api.Seg{move(0, 0), {Kind: api.SegLine, Y: -most - 1, U: n}}, api.ErrForm)
	}
}

// P124: coordinates and weights have ranges.
func TestCheckRange(t *testing.T) {
	for _, n := range beyond {
		for _, s := range []api.Seg{move(n, 0), move(0, n), line(n, 0), line(0, n), curve(n, 0, 0, 0, 256), curve(0, n, 0, 0, 256), curve(0, 0, n, 0, 256), curve(0, 0, 0, n, 256)} {
			isRefused(t, []api.Seg{move(1, 1), s}, api.ErrRange)
			if s.Kind == api.SegMove {
				isRefused(t, []api.Seg{s}, api.ErrRange)
			}
		}
	}
	for _, w := range noWeights {
		isRefused(t, []api.Seg{move(1, 1), curve(1, 1, 1, 1, w)}, api.ErrRange)
	}
}

// P124: a segment is examined for all errors before the next one.
func TestCheckInOrder(t *testing.T) {
	wrong := []struct {
		s api.Seg
		e api.Errno
	}{
		{api.Seg{Kind: 9}, api.ErrKind},
		{api.Seg{Kind: api.SegLine, W: 1}, api.ErrForm},
		{line(most+1, 0), api.ErrRange},
		{curve(0, 0, 0, 0, 1), api.ErrRange},
	}
	for _, a := range wrong {
		for _, b := range wrong {
			isRefused(t, []api.Seg{move(0, 0), a.s, b.s}, a.e)
			isRefused(t, []api.Seg{move(0, 0), a.s, shut(), b.s}, a.e)
		}
		isRefused(t, []api.Seg{move(0, 0), a.s, shut(), shut()}, a.e)
		isRefused(t, []api.Seg{move(0, 0), shut(), shut(), a.s}, api.ErrOrder)
		isRefused(t, append(repeated(api.MaxSegs-1, line(1, 1)), a.s), a.e)
	}
}

// P125: all points and control points are mapped; kinds and weights are kept.
func TestMap(t *testing.T) {
	shift, _ := affine.Shift(-70, 900)
	shrink, _ := affine.Scale(1000, -2049)
	maps := []api.Matrix{{}, affine.Identity(), affine.Quarter(1), affine.Quarter(2), affine.Quarter(3), shift, shrink, {A: 1024, B: -777, C: 500, D: 1, E: 2047, F: -6144}}
	counts := map[api.Errno]int{}
	for _, m := range maps {
		for _, p := range paths() {
			got, e := path.Map(p, m)
			want, wantError := mapped(p, m)
			if e != wantError || !slices.Equal(got, want) {
				t.Fatal(m, p, got, e)
			}
			counts[e]++
		}
	}
	if counts[api.OK] < 1000 || counts[api.ErrOver] < 100 || len(counts) != 2 {
		t.Error(counts)
	}
}

// mapped returns what Map should return for a valid path and a valid map.
func mapped(p []api.Seg, m api.Matrix) ([]api.Seg, api.Errno) {
	var images []api.Seg
	for _, s := range p {
		if s.Kind != api.SegClose {
			a, e := affine.Apply(m, api.Point{X: s.X, Y: s.Y})
			if e != api.OK {
				return nil, e
			}
			s.X, s.Y = a.X, a.Y
		}
		if s.Kind == api.SegCurve {
			a, e := affine.Apply(m, api.Point{X: s.U, Y: s.V})
			if e != api.OK {
				return nil, e
			}
			s.U, s.V = a.X, a.Y
		}
		images = append(images, s)
	}
	return images, api.OK
}

// P125: unused fields remain 0 under a map that moves the origin.
func TestMapKeepsForm(t *testing.T) {
	m, _ := affine.Shift(1000, 2000)
	p := []api.Seg{move(1, 2), line(3, 4), curve(5, 6, 7, 8, 90), shut()}
	want := []api.Seg{move(1001, 2002), line(1003, 2004), curve(1005, 2006, 1007, 2008, 90), shut()}
	if q, e := path.Map(p, m); e != api.OK || !slices.Equal(q, want) {
		t.Error(q, e)
	}
}

// P125: a map that is not valid, also for a path without segments; and images at the ends of the range and beyond.
func TestMapErrors(t *testing.T) {
	shift, _ := affine.Shift(1, 0)
	for _, p := range [][]api.Seg{nil, {move(0, 0)}, {move(most, most), line(0, 0)}} {
		for _, m := range []api.Matrix{{A: 1<<20 + 1}, {B: -1<<20 - 1}, {C: math.MinInt}, {D: 1 << 40}, {E: 1<<28 + 1}, {F: math.MaxInt, A: 4096, D: 4096, E: 4096}} {
			if q, e := path.Map(p, m); e != api.ErrRange || len(q) != 0 {
				t.Error(p, m, q, e)
			}
		}
	}
	for _, s := range []api.Seg{move(most, 0), line(most, 0), curve(most, 0, 0, 0, 256), curve(0, 0, most, 0, 256)} {
		if q, e := path.Map([]api.Seg{move(0, 0), s, line(0, 0)}, shift); e != api.ErrOver || len(q) != 0 {
			t.Error(s, q, e)
		}
		s.X, s.U = max(s.X-1, 0), max(s.U-1, 0)
		if q, e := path.Map([]api.Seg{move(0, 0), s, line(0, 0)}, shift); e != api.OK || len(q) != 3 {
			t.Error(s, q, e)
		}
	}
}

// P126: known paths and what they are in the opposite direction.
func TestReverseKnown(t *testing.T) {
	for _, k := range []struct{ text, want string }{
		{"", ""},
		{"m 1 2", "m 1 2"},
		{"m 1 2 h", "m 1 2 h"},
		{"m 1 2 m 3 4 h m 5 6", "m 1 2 m 3 4 h m 5 6"},
		{"m 0 0 l 4 0 l 4 2 l 0 2 h", "m 0 2 l 4 2 l 4 0 l 0 0 h"},
		{"m 0 0 l 1 2", "m 1 2 l 0 0"},
		{"m 1 1 q 5 5 9 1 256 m -3 0", "m 9 1 q 5 5 1 1 256 m -3 0"},
		{"m 1 2 q 3 4 5 6 16 l 7 8 q 9 0 10 11 4096 h", "m 10 11 q 9 0 7 8 4096 l 5 6 q 3 4 1 2 16 h"},
		{"m 1 2 l 3 4 q 5 6 7 8 99 m 9 10 l 11 12 h m 13 14 q 15 16 17 18 19", "m 7 8 q 5 6 3 4 99 l 1 2 m 11 12 l 9 10 h m 17 18 q 15 16 13 14 19"},
	} {
		if got := reversedText(t, k.text); got != k.want {
			t.Errorf("%q: %q, not %q", k.text, got, k.want)
		}
		if got := reversedText(t, k.want); got != k.text {
			t.Errorf("%q: %q, not %q", k.want, got, k.text)
		}
	}
}

func reversedText(t *testing.T, text string) string {
	t.Helper()
	p, e := path.Parse(text)
	if e != api.OK {
		t.Fatal(text, e)
	}
	r, e := path.Reverse(p)
	if e != api.OK {
		t.Fatal(text, e)
	}
	result, e := path.Text(r)
	if e != api.OK {
		t.Fatal(text, e)
	}
	return result
}

// P126: the reversed path is as long as the path, is valid, has the same bounds, and is the path again when it is reversed.
func TestReverseTwice(t *testing.T) {
	for _, p := range paths() {
		r, e := path.Reverse(p)
		if e != api.OK || path.Check(r) != api.OK || len(r) != len(p) {
			t.Fatal(p, r, e)
		}
		a, b, e := path.Bounds(p)
		c, d, f := path.Bounds(r)
		if a != c || b != d || e != f {
			t.Error(p, r, a, b, c, d)
		}
		again, e := path.Reverse(r)
		if e != api.OK || !slices.Equal(p, again) {
			t.Error(p, r, again, e)
		}
	}
}

// P127: known paths; a SegClose has no point, but control points count.
func TestBoundsKnown(t *testing.T) {
	for _, k := range []struct {
		text string
		a, b api.Point
	}{
		{"m 3 4", api.Point{X: 3, Y: 4}, api.Point{X: 3, Y: 4}},
		{"m -3 -4 h", api.Point{X: -3, Y: -4}, api.Point{X: -3, Y: -4}},
		{"m 3 4 l 5 9 h", api.Point{X: 3, Y: 4}, api.Point{X: 5, Y: 9}},
		{"m 1 1 q 5 5 9 1 256 m -3 0", api.Point{X: -3}, api.Point{X: 9, Y: 5}},
		{"m 10 10 q -7 40 20 20 16 h", api.Point{X: -7, Y: 10}, api.Point{X: 20, Y: 40}},
		{"m 10 10 q 15 15 20 -1 16 m 11 90 l 99 11", api.Point{X: 10, Y: -1}, api.Point{X: 99, Y: 90}},
		{"m 32767 -32767 l -32767 32767", api.Point{X: -most, Y: -most}, api.Point{X: most, Y: most}},
	} {
		p, _ := path.Parse(k.text)
		if a, b, e := path.Bounds(p); a != k.a || b != k.b || e != api.OK {
			t.Error(k.text, a, b, e)
		}
	}
	for _, p := range [][]api.Seg{nil, {}} {
		if a, b, e := path.Bounds(p); e != api.ErrNone || a != (api.Point{}) || b != (api.Point{}) {
			t.Error(a, b, e)
		}
	}
}

// P127: the least and the greatest coordinates.
func TestBounds(t *testing.T) {
	for _, p := range paths() {
		if len(p) == 0 {
			continue
		}
		var xs, ys []int
		for _, s := range p {
			if s.Kind != api.SegClose {
				xs, ys = append(xs, s.X), append(ys, s.Y)
			}
			if s.Kind == api.SegCurve {
				xs, ys = append(xs, s.U), append(ys, s.V)
			}
		}
		a, b, e := path.Bounds(p)
		if a != (api.Point{X: slices.Min(xs), Y: slices.Min(ys)}) || b != (api.Point{X: slices.Max(xs), Y: slices.Max(ys)}) || e != api.OK {
			t.Error(p, a, b, e)
		}
	}
}

// P128 and P129: known paths and their texts.
func TestTextKnown(t *testing.T) {
	for _, k := range known {
		if s, e := path.Text(k.p); s != k.text || e != api.OK {
			t.Errorf("%q, not %q: %v", s, k.text, e)
		}
		if p, e := path.Parse(k.text); !slices.Equal(p, k.p) || e != api.OK {
			t.Error(k.text, p, e)
		}
	}
}

// P128 and P129: a path is parsed from its text, which is not too long.
func TestTextAndParse(t *testing.T) {
	longest := 0
	for _, p := range append(paths(), repeated(api.MaxSegs, curve(-most, -most, -most, -most, mostWeight))) {
		s, e := path.Text(p)
		if e != api.OK || len(s) > mostText {
			t.Fatal(p, len(s), e)
		}
		longest = max(longest, len(s))
		if q, e := path.Parse(s); e != api.OK || !slices.Equal(p, q) {
			t.Fatal(p, q, e)
		}
	}
	if longest != mostText {
		t.Error(longest)
	}
}

// P128: one word for each kind and each number, separated by single spaces.
func TestTextOfNumbers(t *testing.T) {
	for n := -most; n <= most; n += 1 + (n&7)*(n&31) {
		word := strconv.Itoa(n)
		s, e := path.Text([]api.Seg{move(n, 0), line(1, n), curve(n, 2, 3, n, 256)})
		if want := "m " + word + " 0 l 1 " + word + " q " + word + " 2 3 " + word + " 256"; s != want || e != api.OK {
			t.Fatalf("%q, not %q: %v", s, want, e)
		}
	}
}

// P129: texts of another form.
func TestParseSyntax(t *testing.T) {
	texts := []string{
		" ", "  ", "\x00", "m", "m ", "m 1", "m 1 ", "m 1 2 ", " m 1 2", "m  1 2", "m 1  2", "m\t1 2", "m 1 2\n", "m 1 2 3", "m1 2", "m,1,2", "m 1,2", "M 1 2",
		"m 1 2 l", "m 1 2 l 3", "m 1 2 L 3 4", "m 1 2 l 3 4 5", "m 1 2l 3 4",
		"m 1 2 q", "m 1 2 q 3 4 5 6", "m 1 2 q 3 4 5 6 h", "m 1 2 q 3 4 5 6 256 7", "m 1 2 c 3 4 5 6 7 8",
		"m 1 2 h ", "m 1 2 h 0", "m 1 2 h 0 0", "m 1 2 H", "m 1 2 hh", "m 1 2  h", "h h ", "z", "mm 1 2", "x", "1 2", "m m 1 2", "\xff", "m 1 2 é", "m １ 2",
	}
	for _, number := range []string{
		"", "-", "+", "--1", "-+1", "+1", "+0", "-0", "-00", "00", "01", "-01", "00001", "000001", "-00001", "0x1", "0b1", "0o7", "1_0", "1e3", "1.0", "1.", ".5", "a", "1a", "a1",
		"100000", "123456", "-100000", "1000000", "0000000", "99999999999999999999", "-99999999999999999999", "18446744073709551617", "1-", "1-1", "\x001", "1\x00", "²", "NaN",
	} {
		texts = append(texts, "m "+number+" 0", "m 0 "+number, "m 0 0 l "+number+" 0", "m 0 0 l 0 "+number,
			"m 0 0 q "+number+" 0 0 0 256", "m 0 0 q 0 "+number+" 0 0 256", "m 0 0 q 0 0 "+number+" 0 256", "m 0 0 q 0 0 0 "+number+" 256", "m 0 0 q 0 0 0 0 "+number)
	}
	for _, s := range texts {
		if p, e := path.Parse(s); e != api.ErrSyntax || len(p) != 0 {
			t.Errorf("%q: %v %v", s, p, e)
		}
	}
}

// P129: the syntax of the whole text comes before the error of Check.
func TestParseSyntaxFirst(t *testing.T) {
	long := strings.Repeat("m 0 0 ", api.MaxSegs+7)
	for _, s := range []string{"l 1 1", "h", "m 0 40000", "m 0 0 q 0 0 0 0 15", "m 0 0 h h", long + "h"} {
		for _, tail := range []string{" ", " x", " l 1", " l 1 00", " q 1 2 3 4", "  h", "h"} {
			if p, e := path.Parse(s + tail); e != api.ErrSyntax || len(p) != 0 {
				t.Errorf("%q %q: %v", s[:min(len(s), 30)], tail, e)
			}
		}
	}
}

// P129: texts of the right form whose path is not valid.
func TestParseErrors(t *testing.T) {
	for s, want := range map[string]api.Errno{
		"l 1 1":                       api.ErrOrder,
		"q 1 1 2 2 256":               api.ErrOrder,
		"h":                           api.ErrOrder,
		"h m 1 1":                     api.ErrOrder,
		"m 1 1 h l 2 2":               api.ErrOrder,
		"m 1 1 h q 99999 1 1 1 1":     api.ErrOrder,
		"m 1 1 h h":                   api.ErrOrder,
		"l 99999 0":                   api.ErrOrder,
		"m 32768 0":                   api.ErrRange,
		"m -32768 0":                  api.ErrRange,
		"m 0 32768":                   api.ErrRange,
		"m 0 -32768":                  api.ErrRange,
		"m 99999 0":                   api.ErrRange,
		"m -99999 0":                  api.ErrRange,
		"m 0 0 l 40000 0":             api.ErrRange,
		"m 0 0 l 0 -40000 h h":        api.ErrRange,
		"m 0 0 q 32768 0 0 0 256":     api.ErrRange,
		"m 0 0 q 0 -32768 0 0 256":    api.ErrRange,
		"m 0 0 q 0 0 32768 0 256":     api.ErrRange,
		"m 0 0 q 0 0 0 32768 256":     api.ErrRange,
		"m 0 0 q 0 0 0 0 15":          api.ErrRange,
		"m 0 0 q 0 0 0 0 4097":        api.ErrRange,
		"m 0 0 q 0 0 0 0 0":           api.ErrRange,
		"m 0 0 q 0 0 0 0 -256":        api.ErrRange,
		"m 0 0 q 0 0 0 0 99999 l 1 1": api.ErrRange,
	} {
		if p, e := path.Parse(s); e != want || len(p) != 0 {
			t.Errorf("%q: %v %v", s, p, e)
		}
	}
}

// P124 and P129: texts of as many segments as are permitted, and of more.
func TestParseLarge(t *testing.T) {
	for _, n := range []int{api.MaxSegs - 1, api.MaxSegs} {
		if p, e := path.Parse("m 1 2" + strings.Repeat(" l -3 4", n-1)); e != api.OK || !slices.Equal(p, append([]api.Seg{move(1, 2)}, slices.Repeat([]api.Seg{line(-3, 4)}, n-1)...)) {
			t.Error(n, e)
		}
	}
	for _, n := range []int{api.MaxSegs + 1, api.MaxSegs + 2, 50 * api.MaxSegs} {
		for _, word := range []string{" l 3 4", " h", " q 1 2 3 4 99999"} {
			if p, e := path.Parse("m 1 2" + strings.Repeat(word, n-1)); e != api.ErrLarge || len(p) != 0 {
				t.Error(n, word, e)
			}
		}
	}
}

// P129: whatever is parsed is written as it was.
func FuzzParse(f *testing.F) {
	for _, k := range known {
		f.Add(k.text)
	}
	f.Add("m 0 00")
	f.Fuzz(func(t *testing.T, s string) {
		p, e := path.Parse(s)
		if e != api.OK {
			return
		}
		if again, e := path.Text(p); again != s || e != api.OK {
			t.Errorf("%q: %q %v", s, again, e)
		}
	})
}

// P130: the path of a rectangle.
func TestRectangle(t *testing.T) {
	for _, r := range [][4]int{{0, 0, 4, 2}, {0, 0, 1, 1}, {-5, -7, -4, 100}, {-most, -most, most, most}, {most - 1, -most, most, 1 - most}} {
		x0, y0, x1, y1 := r[0], r[1], r[2], r[3]
		p, e := path.Rectangle(x0, y0, x1, y1)
		if want := []api.Seg{move(x0, y0), line(x1, y0), line(x1, y1), line(x0, y1), shut()}; e != api.OK || !slices.Equal(p, want) {
			t.Error(r, p, e)
		}
		a, b, e := path.Bounds(p)
		if a != (api.Point{X: x0, Y: y0}) || b != (api.Point{X: x1, Y: y1}) || e != api.OK {
			t.Error(r, a, b, e)
		}
	}
}

// P130: arguments that are not permitted; the range comes before the order.
func TestRectangleErrors(t *testing.T) {
	for _, n := range beyond {
		for _, r := range [][4]int{{n, 0, 4, 2}, {0, n, 4, 2}, {0, 0, n, 2}, {0, 0, 4, n}, {9, 9, 9, n}, {n, n, n, n}, {n, 9, 0, 0}} {
			if p, e := path.Rectangle(r[0], r[1], r[2], r[3]); e != api.ErrRange || len(p) != 0 {
				t.Error(r, p, e)
			}
		}
	}
	for _, r := range [][4]int{{4, 0, 4, 2}, {5, 0, 4, 2}, {0, 2, 4, 2}, {0, 3, 4, 2}, {0, 0, 0, 0}, {most, most, -most, -most}, {-most, 0, most, 0}, {0, -most, 0, most}} {
		if p, e := path.Rectangle(r[0], r[1], r[2], r[3]); e != api.ErrOrder || len(p) != 0 {
			t.Error(r, p, e)
		}
	}
}

// results returns the paths that the functions make of a path.
func results(p []api.Seg) [][]api.Seg {
	mapped, _ := path.Map(p, affine.Identity())
	turned, _ := path.Map(p, affine.Quarter(3))
	reversed, _ := path.Reverse(p)
	text, _ := path.Text(p)
	parsed, _ := path.Parse(text)
	rectangle, _ := path.Rectangle(1, 2, 3, 4)
	return [][]api.Seg{mapped, turned, reversed, parsed, rectangle}
}

// whole returns a slice with its unused capacity.
func whole(p []api.Seg) []api.Seg {
	return p[:cap(p)]
}

// P2: results are equal for equal arguments, arguments keep their segments and their unused capacity, and nothing is shared.
func TestArgumentsAndResults(t *testing.T) {
	for _, p := range paths() {
		// Behind the path there are further segments.
		long := append(slices.Clone(p), line(7, 7), shut(), move(8, 8))
		before := slices.Clone(whole(long))
		argument := long[:len(p)]
		first, second := results(argument), results(argument)
		for i := range first {
			if !slices.Equal(first[i], second[i]) {
				t.Fatal("not equal", i, p)
			}
			kept := slices.Clone(second[i])
			for j := range whole(first[i]) {
				whole(first[i])[j] = api.Seg{Kind: -77}
			}
			if !slices.Equal(second[i], kept) {
				t.Fatal("shared by results", i, p)
			}
		}
		path.Check(argument)
		path.Bounds(argument)
		if !slices.Equal(whole(long), before) {
			t.Fatal("an argument was changed, or is shared", p)
		}
	}
}
