package affine_test

import (
	"math"
	"math/big"
	"testing"

	"printworks/affine"
	"printworks/api"
)

// The signatures are those of the chapter.
var (
	_ func(api.Matrix) api.Errno                           = affine.Check
	_ func() api.Matrix                                    = affine.Identity
	_ func(int, int) (api.Matrix, api.Errno)               = affine.Shift
	_ func(int, int) (api.Matrix, api.Errno)               = affine.Scale
	_ func(int) api.Matrix                                 = affine.Quarter
	_ func(api.Matrix, api.Point) (api.Point, api.Errno)   = affine.Apply
	_ func(api.Matrix, api.Matrix) (api.Matrix, api.Errno) = affine.Then
	_ func(api.Matrix) (api.Matrix, api.Errno)             = affine.Invert
)

const (
	one        = 4096
	mostFactor = 1048576
	mostShift  = 268435456
	mostCoord  = api.MaxCoord
)

// far has numbers that are in no range of the chapter.
var far = []int{mostShift + 1, -mostShift - 1, 1 << 32, -1 << 32, 1 << 62, -1 << 62, math.MaxInt, math.MinInt, math.MinInt + 1}

// beyond returns numbers outside the range -most to most.
func beyond(most int) []int {
	return append([]int{most + 1, -most - 1}, far...)
}

// factors has factors of maps: the ends of their range, and ordinary ones.
var factors = []int{-mostFactor, -mostFactor + 1, -12345, -8192, -4097, -one, -2048, -1, 0, 1, 3, 2048, one, 4097, 8192, 54321, mostFactor - 1, mostFactor}

// shifts has E and F of maps: the ends of their range, and ordinary ones.
var shifts = []int{-mostShift, -mostShift + 1, -one * mostCoord, -2049, -2048, -1, 0, 1, 2047, 2048, 12288, one * mostCoord, mostShift - 1, mostShift}

// coords has coordinates of points.
var coords = []int{-mostCoord, -mostCoord + 1, -4096, -17, -2, -1, 0, 1, 2, 5, 4095, mostCoord - 1, mostCoord}

// picker gives numbers that follow a fixed rule.
type picker struct{ state uint64 }

func (p *picker) step() int {
	p.state = p.state*6364136223846793005 + 1442695040888963407
	return int(p.state >> 33)
}

// number returns a number from -most to most; small ones are frequent.
func (p *picker) number(most int) int {
	limit := max(most>>(p.step()%20), 1)
	return p.step()%(2*limit+1) - limit
}

// of returns one of the listed numbers or, half of the time, a number from -most to most.
func (p *picker) of(list []int, most int) int {
	if p.step()%2 == 0 {
		return p.number(most)
	}
	return list[p.step()%len(list)]
}

// matrix returns a valid map.
func (p *picker) matrix() api.Matrix {
	return api.Matrix{
		A: p.of(factors, mostFactor), B: p.of(factors, mostFactor), C: p.of(factors, mostFactor), D: p.of(factors, mostFactor),
		E: p.of(shifts, mostShift), F: p.of(shifts, mostShift),
	}
}

// mild returns a map that takes small points to points.
func (p *picker) mild() api.Matrix {
	return api.Matrix{
		A: p.number(3 * one), B: p.number(3 * one), C: p.number(3 * one), D: p.number(3 * one), E: p.number(1000 * one), F: p.number(1000 * one),
	}
}

// matrices returns valid maps of all sizes.
func matrices(count int) []api.Matrix {
	p := picker{1}
	list := []api.Matrix{
		{}, affine.Identity(), affine.Quarter(1), affine.Quarter(2), affine.Quarter(3), {A: 8192, D: one},
		{A: mostFactor, B: mostFactor, C: mostFactor, D: mostFactor, E: mostShift, F: mostShift},
		{A: -mostFactor, B: -mostFactor, C: -mostFactor, D: -mostFactor, E: -mostShift, F: -mostShift},
		{A: mostFactor, B: mostFactor, C: -mostFactor, D: mostFactor, E: mostShift, F: mostShift},
		{A: mostFactor, B: -mostFactor, C: -mostFactor, D: -mostFactor, E: mostShift, F: -mostShift},
	}
	for len(list) < count {
		list = append(list, p.matrix(), p.mild())
	}
	return list
}

// invalidMatrices returns maps of which at least one number is outside its range.
func invalidMatrices() []api.Matrix {
	var list []api.Matrix
	for _, m := range []api.Matrix{{}, affine.Identity()} {
		for _, n := range beyond(mostFactor) {
			a, b, c, d := m, m, m, m
			a.A, b.B, c.C, d.D = n, n, n, n
			list = append(list, a, b, c, d, api.Matrix{A: n, B: n, C: n, D: n, E: n, F: n})
		}
		for _, n := range beyond(mostShift) {
			e, f := m, m
			e.E, f.F = n, n
			list = append(list, e, f)
		}
	}
	return list
}

func whole(n int) *big.Int {
	return big.NewInt(int64(n))
}

// sum returns a b + c d of numbers of any size.
func sum(a, b, c, d int) *big.Int {
	return new(big.Int).Add(new(big.Int).Mul(whole(a), whole(b)), new(big.Int).Mul(whole(c), whole(d)))
}

// nearest returns floor((2a + b) / (2b)) for b > 0, as P5 and P116 say.
func nearest(a, b *big.Int) *big.Int {
	twice := new(big.Int).Lsh(b, 1)
	top := new(big.Int).Add(new(big.Int).Lsh(a, 1), b)
	// Div of package big rounds down if the divisor is positive.
	return top.Div(top, twice)
}

// mapped returns a coordinate of an image, by P116.
func mapped(factorX, x, factorY, y, shift int) *big.Int {
	n := sum(factorX, x, factorY, y)
	return nearest(n.Add(n, whole(shift)), whole(one))
}

// isBeyond tells whether one of the numbers is outside the range -most to most.
func isBeyond(most int, numbers ...*big.Int) bool {
	for _, n := range numbers {
		if n.CmpAbs(whole(most)) > 0 {
			return true
		}
	}
	return false
}

// expected returns the map of six numbers, or ErrOver.
func expected(n [6]*big.Int) (api.Matrix, api.Errno) {
	if isBeyond(mostFactor, n[:4]...) || isBeyond(mostShift, n[4:]...) {
		return api.Matrix{}, api.ErrOver
	}
	i := [6]int{}
	for k := range i {
		i[k] = int(n[k].Int64())
	}
	return api.Matrix{A: i[0], B: i[1], C: i[2], D: i[3], E: i[4], F: i[5]}, api.OK
}

// P116: the ranges of the numbers, each for itself.
func TestCheck(t *testing.T) {
	for _, m := range matrices(500) {
		if e := affine.Check(m); e != api.OK {
			t.Error(m, e)
		}
	}
	for _, n := range []int{-mostFactor, mostFactor} {
		for _, m := range []api.Matrix{{A: n}, {B: n}, {C: n}, {D: n}, {E: n}, {F: n}} {
			if e := affine.Check(m); e != api.OK {
				t.Error(m, e)
			}
		}
	}
	for _, n := range []int{-mostShift, -mostFactor - 1, mostFactor + 1, mostShift} {
		for _, m := range []api.Matrix{{E: n}, {F: n}, {E: n, F: n}} {
			if e := affine.Check(m); e != api.OK {
				t.Error(m, e)
			}
		}
	}
	for _, m := range invalidMatrices() {
		if e := affine.Check(m); e != api.ErrRange {
			t.Error(m, e)
		}
	}
}

// P117: the map that changes no point.
func TestIdentity(t *testing.T) {
	m := affine.Identity()
	if m != (api.Matrix{A: 4096, D: 4096}) {
		t.Error(m)
	}
	for _, x := range coords {
		for _, y := range coords {
			if p, e := affine.Apply(m, api.Point{X: x, Y: y}); p != (api.Point{X: x, Y: y}) || e != api.OK {
				t.Error(x, y, p, e)
			}
		}
	}
}

// P117: shifts, up to the ends of their range.
func TestShift(t *testing.T) {
	for _, dx := range coords {
		for _, dy := range coords {
			m, e := affine.Shift(dx, dy)
			if m != (api.Matrix{A: 4096, D: 4096, E: 4096 * dx, F: 4096 * dy}) || e != api.OK || affine.Check(m) != api.OK {
				t.Error(dx, dy, m, e)
			}
			if p, e := affine.Apply(m, api.Point{}); p != (api.Point{X: dx, Y: dy}) || e != api.OK {
				t.Error(dx, dy, p, e)
			}
		}
	}
	for _, n := range beyond(mostCoord) {
		for _, other := range append(beyond(mostCoord), coords...) {
			for _, c := range [][2]int{{n, other}, {other, n}} {
				if m, e := affine.Shift(c[0], c[1]); m != (api.Matrix{}) || e != api.ErrRange {
					t.Error(c, m, e)
				}
			}
		}
	}
}

// P117: scales, up to the ends of their range.
func TestScale(t *testing.T) {
	for _, x := range factors {
		for _, y := range factors {
			if m, e := affine.Scale(x, y); m != (api.Matrix{A: x, D: y}) || e != api.OK || affine.Check(m) != api.OK {
				t.Error(x, y, m, e)
			}
		}
	}
	for _, n := range beyond(mostFactor) {
		for _, other := range append(beyond(mostFactor), factors...) {
			for _, c := range [][2]int{{n, other}, {other, n}} {
				if m, e := affine.Scale(c[0], c[1]); m != (api.Matrix{}) || e != api.ErrRange {
					t.Error(c, m, e)
				}
			}
		}
	}
}

// P117: any number of quarter turns is its remainder of 0 to 3.
func TestQuarter(t *testing.T) {
	want := api.Point{X: 7, Y: -3}
	for k, m := range []api.Matrix{{A: 4096, D: 4096}, {B: 4096, C: -4096}, {A: -4096, D: -4096}, {B: -4096, C: 4096}} {
		for _, times := range []int{k, k + 4, k - 4, k - 8, k + 400, k - 400, math.MinInt + k, math.MaxInt - 3 + k, k + 1<<32, k - 1<<32} {
			if q := affine.Quarter(times); q != m {
				t.Error(times, q)
			}
		}
		if p, e := affine.Apply(affine.Quarter(k), api.Point{X: 7, Y: -3}); p != want || e != api.OK {
			t.Error(k, p, e)
		}
		want = api.Point{X: -want.Y, Y: want.X}
	}
}

// P5, P116 and P118: the coordinates are rounded to the nearest number, half up.
func TestApply(t *testing.T) {
	half := api.Matrix{A: 2048, D: 2048}
	for _, c := range []struct {
		m    api.Matrix
		p, q api.Point
	}{
		{half, api.Point{X: 1, Y: -1}, api.Point{X: 1, Y: 0}}, {half, api.Point{X: 3, Y: -3}, api.Point{X: 2, Y: -1}},
		{half, api.Point{X: -4, Y: 4}, api.Point{X: -2, Y: 2}},
		{api.Matrix{E: 2047, F: 2048}, api.Point{X: 9, Y: 9}, api.Point{X: 0, Y: 1}},
		{api.Matrix{E: -2048, F: -2049}, api.Point{X: 9, Y: 9}, api.Point{X: 0, Y: -1}},
		{api.Matrix{E: 6143, F: -6145}, api.Point{}, api.Point{X: 1, Y: -2}},
		{api.Matrix{A: 4096, B: 8192, C: 12288, D: 16384, E: 20480, F: 24576}, api.Point{X: 10, Y: 100}, api.Point{X: 315, Y: 426}},
		// The three parts are rounded together.
		{api.Matrix{A: 1365, B: -1366, C: 1365, D: -1365, E: 1366, F: -1365}, api.Point{X: 1, Y: 1}, api.Point{X: 1, Y: -1}},
		{api.Matrix{A: mostFactor, B: -mostFactor, C: -mostFactor, D: mostFactor}, api.Point{X: mostCoord, Y: mostCoord}, api.Point{}},
	} {
		if q, e := affine.Apply(c.m, c.p); q != c.q || e != api.OK {
			t.Errorf("Apply(%v, %v) is %v, %d instead of %v", c.m, c.p, q, e, c.q)
		}
	}
}

// P116 and P118: images and ErrOver, compared with exact numbers.
func TestApplyIsExact(t *testing.T) {
	seen := map[api.Errno]int{}
	for _, m := range matrices(1000) {
		for _, x := range coords {
			for _, y := range coords {
				wantX, wantY, code := mapped(m.A, x, m.C, y, m.E), mapped(m.B, x, m.D, y, m.F), api.OK
				if isBeyond(mostCoord, wantX, wantY) {
					wantX, wantY, code = whole(0), whole(0), api.ErrOver
				}
				seen[code]++
				p, e := affine.Apply(m, api.Point{X: x, Y: y})
				if int64(p.X) != wantX.Int64() || int64(p.Y) != wantY.Int64() || e != code {
					t.Fatalf("Apply(%v, %d, %d) is %v, %d instead of %v, %v, %d", m, x, y, p, e, wantX, wantY, code)
				}
			}
		}
	}
	if seen[api.OK] < 1000 || seen[api.ErrOver] < 1000 {
		t.Error(seen)
	}
}

// P118: the errors, each coordinate for itself.
func TestApplyErrors(t *testing.T) {
	for _, m := range invalidMatrices() {
		for _, p := range []api.Point{{}, {X: 1, Y: 1}, {X: mostCoord + 1}, {X: math.MinInt, Y: math.MaxInt}} {
			if q, e := affine.Apply(m, p); q != (api.Point{}) || e != api.ErrRange {
				t.Error(m, p, q, e)
			}
		}
	}
	huge := api.Matrix{A: mostFactor, B: mostFactor, C: mostFactor, D: mostFactor}
	for _, m := range []api.Matrix{affine.Identity(), {}, {A: 2048, D: 2048}, huge} {
		for _, n := range beyond(mostCoord) {
			for _, other := range append(beyond(mostCoord), coords...) {
				for _, p := range []api.Point{{X: n, Y: other}, {X: other, Y: n}} {
					if q, e := affine.Apply(m, p); q != (api.Point{}) || e != api.ErrRange {
						t.Error(m, p, q, e)
					}
				}
			}
		}
	}
}

// P118: images at the ends of the range of coordinates, and half a unit and one unit farther.
func TestApplyOver(t *testing.T) {
	for _, c := range []struct {
		shift, want int
		e           api.Errno
	}{
		{one*mostCoord + 2047, mostCoord, api.OK}, {one*mostCoord + 2048, 0, api.ErrOver}, {one * (mostCoord + 1), 0, api.ErrOver},
		{-one*mostCoord - 2048, -mostCoord, api.OK}, {-one*mostCoord - 2049, 0, api.ErrOver}, {-one * (mostCoord + 1), 0, api.ErrOver},
		{mostShift, 0, api.ErrOver}, {-mostShift, 0, api.ErrOver},
	} {
		if p, e := affine.Apply(api.Matrix{E: c.shift}, api.Point{X: 3, Y: 4}); p != (api.Point{X: c.want}) || e != c.e {
			t.Error("E", c, p, e)
		}
		if p, e := affine.Apply(api.Matrix{F: c.shift}, api.Point{X: 3, Y: 4}); p != (api.Point{Y: c.want}) || e != c.e {
			t.Error("F", c, p, e)
		}
	}
}

// P119: the example of the chapter, and the order of the maps.
func TestThenExample(t *testing.T) {
	shift, _ := affine.Shift(3, 0)
	for _, c := range []struct {
		m, n api.Matrix
		want api.Point
	}{
		{shift, affine.Quarter(1), api.Point{X: -2, Y: 4}}, {affine.Quarter(1), shift, api.Point{X: 1, Y: 1}}, {shift, shift, api.Point{X: 7, Y: 2}},
	} {
		m, e := affine.Then(c.m, c.n)
		if e != api.OK {
			t.Fatal(e)
		}
		if p, e := affine.Apply(m, api.Point{X: 1, Y: 2}); p != c.want || e != api.OK {
			t.Error(p, e)
		}
	}
	m, e := affine.Then(api.Matrix{A: 4096, B: 8192, C: 12288, D: 16384, E: 20480, F: 24576}, api.Matrix{A: 28672, B: 32768, C: 36864, D: 40960, E: 45056, F: 49152})
	if m != (api.Matrix{A: 25 * one, B: 28 * one, C: 57 * one, D: 64 * one, E: 100 * one, F: 112 * one}) || e != api.OK {
		t.Error(m, e)
	}
}

// composed returns the result of Then, by P119.
func composed(m, n api.Matrix) (api.Matrix, api.Errno) {
	part := func(a, b, c, d int) *big.Int { return nearest(sum(a, b, c, d), whole(one)) }
	e, f := part(n.A, m.E, n.C, m.F), part(n.B, m.E, n.D, m.F)
	return expected([6]*big.Int{
		part(n.A, m.A, n.C, m.B), part(n.B, m.A, n.D, m.B), part(n.A, m.C, n.C, m.D), part(n.B, m.C, n.D, m.D),
		e.Add(e, whole(n.E)), f.Add(f, whole(n.F)),
	})
}

// P119: each number and ErrOver, compared with exact numbers.
func TestThenIsExact(t *testing.T) {
	all := matrices(500)
	seen := map[api.Errno]int{}
	for _, m := range all {
		for _, n := range all {
			want, code := composed(m, n)
			seen[code]++
			if q, e := affine.Then(m, n); q != want || e != code {
				t.Fatalf("Then(%v, %v) is %v, %d instead of %v, %d", m, n, q, e, want, code)
			}
		}
	}
	if seen[api.OK] < 1000 || seen[api.ErrOver] < 1000 {
		t.Error(seen)
	}
}

// P119: results at the ends of their ranges and beyond, in each number.
func TestThenOver(t *testing.T) {
	twice := api.Matrix{A: 2 * one, D: 2 * one}
	for _, sign := range []int{1, -1} {
		for _, m := range []api.Matrix{{A: 1}, {B: 1}, {C: 1}, {D: 1}} {
			checkThen(t, times(m, sign*mostFactor/2), twice, times(m, sign*mostFactor), api.OK)
			checkThen(t, times(m, sign*(mostFactor/2+1)), twice, api.Matrix{}, api.ErrOver)
		}
		for _, m := range []api.Matrix{{E: 1}, {F: 1}} {
			checkThen(t, times(m, sign*mostShift/2), twice, times(m, sign*mostShift), api.OK)
			checkThen(t, times(m, sign*(mostShift/2+1)), twice, api.Matrix{}, api.ErrOver)
		}
	}
	// The sum of two shifts may be permitted although the first part of it is not.
	checkThen(t, api.Matrix{E: mostShift}, api.Matrix{A: 2 * one, E: -mostShift}, api.Matrix{E: mostShift}, api.OK)
	checkThen(t, api.Matrix{F: mostShift}, api.Matrix{D: one, F: 1}, api.Matrix{}, api.ErrOver)
}

// times returns a map whose numbers are all multiplied.
func times(m api.Matrix, n int) api.Matrix {
	return api.Matrix{A: n * m.A, B: n * m.B, C: n * m.C, D: n * m.D, E: n * m.E, F: n * m.F}
}

func checkThen(t *testing.T, m, n, want api.Matrix, code api.Errno) {
	t.Helper()
	if q, e := affine.Then(m, n); q != want || e != code {
		t.Errorf("Then(%v, %v) is %v, %d instead of %v, %d", m, n, q, e, want, code)
	}
}

// P119: the errors of both maps come before ErrOver.
func TestThenInvalid(t *testing.T) {
	huge := api.Matrix{A: mostFactor, B: mostFactor, C: mostFactor, D: mostFactor, E: mostShift, F: mostShift}
	for _, m := range invalidMatrices() {
		for _, n := range []api.Matrix{{}, affine.Identity(), huge, m} {
			checkThen(t, m, n, api.Matrix{}, api.ErrRange)
			checkThen(t, n, m, api.Matrix{}, api.ErrRange)
		}
	}
}

// P119: the identity changes no map, and quarter turns add up.
func TestThenExactMaps(t *testing.T) {
	for _, m := range matrices(300) {
		checkThen(t, m, affine.Identity(), m, api.OK)
		checkThen(t, affine.Identity(), m, m, api.OK)
	}
	for k := range 4 {
		for l := range 4 {
			checkThen(t, affine.Quarter(k), affine.Quarter(l), affine.Quarter(k+l), api.OK)
		}
	}
}

// P120: the map of Then takes a point near to where both maps take it.
func TestThenIsNear(t *testing.T) {
	p := picker{5}
	compared, rounded := 0, 0
	for i := range 100000 {
		m, n, at := p.mild(), p.mild(), api.Point{X: p.number(2000), Y: p.number(2000)}
		if i%2 == 0 {
			n = p.matrix()
		}
		both, e := affine.Then(m, n)
		if e != api.OK {
			continue
		}
		near, e1 := affine.Apply(both, at)
		first, e2 := affine.Apply(m, at)
		second, e3 := affine.Apply(n, first)
		if e1 != api.OK || e2 != api.OK || e3 != api.OK {
			continue
		}
		compared++
		if near != second {
			rounded++
		}
		if !isNear(near.X, second.X, at, n.A, n.C) || !isNear(near.Y, second.Y, at, n.B, n.D) {
			t.Fatal(m, n, at, near, second)
		}
	}
	if compared < 10000 || rounded < 100 {
		t.Error(compared, rounded)
	}
}

// isNear tells whether two coordinates differ by at most the bound of P120.
func isNear(a, b int, p api.Point, f, g int) bool {
	return 8192*max(a-b, b-a) <= 8193+max(p.X, -p.X)+max(p.Y, -p.Y)+max(f, -f)+max(g, -g)
}

// P121: the example of the chapter, and inverses that are simple.
func TestInvertExamples(t *testing.T) {
	shift, _ := affine.Shift(3, -5)
	back, _ := affine.Shift(-3, 5)
	for _, c := range [][2]api.Matrix{
		{{A: 8192, D: 4096}, {A: 2048, D: 4096}}, {shift, back}, {affine.Identity(), affine.Identity()},
		{affine.Quarter(1), affine.Quarter(3)}, {affine.Quarter(2), affine.Quarter(2)},
		{{A: -8192, D: 4096, E: 4096, F: 4096}, {A: -2048, D: 4096, E: 2048, F: -4096}},
		{{A: 4096, B: 8192, C: 12288, D: 16384, E: 20480, F: 24576}, {A: -8192, B: 4096, C: 6144, D: -2048, E: 4096, F: -8192}},
		// Quotients of halves, with a positive and with a negative determinant: half up.
		{{A: 8192, D: 4096, E: 1}, {A: 2048, D: 4096}}, {{A: 8192, D: 4096, E: -1}, {A: 2048, D: 4096, E: 1}},
		{{A: -8192, D: 4096, E: 1}, {A: -2048, D: 4096, E: 1}}, {{A: -8192, D: 4096, E: -1}, {A: -2048, D: 4096}},
	} {
		if q, e := affine.Invert(c[0]); q != c[1] || e != api.OK {
			t.Errorf("Invert(%v) is %v, %d instead of %v", c[0], q, e, c[1])
		}
	}
}

// inverse returns the result of Invert for a valid map, by P121.
func inverse(m api.Matrix) (api.Matrix, api.Errno) {
	det := sum(m.A, m.D, -m.B, m.C)
	if det.Sign() == 0 {
		return api.Matrix{}, api.ErrNone
	}
	part := func(n *big.Int, bits uint) *big.Int {
		n.Lsh(n, bits)
		if det.Sign() < 0 {
			return nearest(n.Neg(n), new(big.Int).Neg(det))
		}
		return nearest(n, det)
	}
	return expected([6]*big.Int{
		part(whole(m.D), 24), part(whole(-m.B), 24), part(whole(-m.C), 24), part(whole(m.A), 24),
		part(sum(m.C, m.F, -m.D, m.E), 12), part(sum(m.B, m.E, -m.A, m.F), 12),
	})
}

// P121: each number and the errors, compared with exact numbers.
func TestInvertIsExact(t *testing.T) {
	seen := map[api.Errno]int{}
	for _, m := range matrices(50000) {
		want, code := inverse(m)
		seen[code]++
		if q, e := affine.Invert(m); q != want || e != code {
			t.Fatalf("Invert(%v) is %v, %d instead of %v, %d", m, q, e, want, code)
		}
	}
	if seen[api.OK] < 1000 || seen[api.ErrOver] < 1000 || seen[api.ErrNone] < 10 {
		t.Error(seen)
	}
}

// P121: maps whose factors and shifts are all at the ends of their ranges have the largest numerators.
func TestInvertLargest(t *testing.T) {
	ends := []int{-1, 0, 1}
	for i := range 729 {
		sign := func(power int) int { return ends[i/power%3] }
		m := api.Matrix{
			A: sign(1) * mostFactor, B: sign(3) * mostFactor, C: sign(9) * mostFactor, D: sign(27) * mostFactor,
			E: sign(81) * mostShift, F: sign(243) * mostShift,
		}
		for _, n := range []api.Matrix{m, {A: m.A + ends[i%3], B: m.B, C: m.C, D: m.D, E: m.E, F: m.F}} {
			if affine.Check(n) != api.OK {
				continue
			}
			want, code := inverse(n)
			if q, e := affine.Invert(n); q != want || e != code {
				t.Errorf("Invert(%v) is %v, %d instead of %v, %d", n, q, e, want, code)
			}
		}
	}
}

// P121: the errors, in their order.
func TestInvertErrors(t *testing.T) {
	for _, m := range invalidMatrices() {
		if q, e := affine.Invert(m); q != (api.Matrix{}) || e != api.ErrRange {
			t.Error(m, q, e)
		}
	}
	for _, m := range []api.Matrix{
		{}, {A: 1, B: 2, C: 2, D: 4}, {A: one}, {D: one}, {B: one}, {C: one}, {E: 1, F: 1}, {A: 3, B: 3, C: 3, D: 3, E: mostShift, F: mostShift},
		{A: mostFactor, B: -mostFactor, C: mostFactor, D: -mostFactor}, {A: -mostFactor, B: mostFactor, C: mostFactor, D: -mostFactor},
	} {
		if q, e := affine.Invert(m); q != (api.Matrix{}) || e != api.ErrNone {
			t.Error(m, q, e)
		}
	}
	for _, c := range []struct {
		m    api.Matrix
		want api.Matrix
		e    api.Errno
	}{
		{api.Matrix{A: 16, D: 16}, api.Matrix{A: mostFactor, D: mostFactor}, api.OK},
		{api.Matrix{A: 15, D: 16}, api.Matrix{}, api.ErrOver}, {api.Matrix{A: 16, D: -15}, api.Matrix{}, api.ErrOver},
		{api.Matrix{B: -16, C: 16}, api.Matrix{B: mostFactor, C: -mostFactor}, api.OK},
		{api.Matrix{B: 16, C: 15}, api.Matrix{}, api.ErrOver}, {api.Matrix{B: -15, C: 16}, api.Matrix{}, api.ErrOver},
		{api.Matrix{A: 2048, D: one, E: mostShift / 2}, api.Matrix{A: 8192, D: one, E: -mostShift}, api.OK},
		{api.Matrix{A: 2048, D: one, E: mostShift/2 + 1}, api.Matrix{}, api.ErrOver},
		{api.Matrix{A: one, D: 2048, F: -mostShift / 2}, api.Matrix{A: one, D: 8192, F: mostShift}, api.OK},
		{api.Matrix{A: one, D: 2048, F: -mostShift/2 - 1}, api.Matrix{}, api.ErrOver},
	} {
		if q, e := affine.Invert(c.m); q != c.want || e != c.e {
			t.Errorf("Invert(%v) is %v, %d instead of %v, %d", c.m, q, e, c.want, c.e)
		}
	}
}

// P1 and P2: any arguments give a result, and the same one again.
func TestSameAgain(t *testing.T) {
	all := append(matrices(60), invalidMatrices()...)
	for i, m := range all {
		n := all[(7*i+3)%len(all)]
		for _, k := range append(far, coords...) {
			if results(m, n, k) != results(m, n, k) {
				t.Fatal(m, n, k)
			}
		}
	}
}

// outcome has what the functions return for one set of arguments.
type outcome struct {
	maps  [6]api.Matrix
	image api.Point
	codes [6]api.Errno
}

func results(m, n api.Matrix, k int) outcome {
	o := outcome{}
	o.maps[0], o.maps[1] = affine.Identity(), affine.Quarter(k)
	o.maps[2], o.codes[0] = affine.Shift(k, k/3)
	o.maps[3], o.codes[1] = affine.Scale(k/5, k)
	o.maps[4], o.codes[2] = affine.Then(m, n)
	o.maps[5], o.codes[3] = affine.Invert(m)
	o.image, o.codes[4] = affine.Apply(n, api.Point{X: k, Y: k / 7})
	o.codes[5] = affine.Check(n)
	return o
}
