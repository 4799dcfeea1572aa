package num_test

import (
	"math"
	"math/big"
	"testing"

	"printworks/api"
	"printworks/num"
)

// The signatures are those of the chapter.
var (
	_ func(int, int) (int, int, api.Errno) = num.Floor
	_ func(int, int) (int, api.Errno)      = num.Round
	_ func(int, int, int) (int, api.Errno) = num.MulDiv
	_ func(int) (int, api.Errno)           = num.Root
	_ func(int, int) (int, api.Errno)      = num.Gcd
	_ func(uint8, uint8) uint8             = num.Mul255
	_ func(uint8, uint8, uint8) uint8      = num.Mix255
)

const most = api.MaxNum

// permitted has numbers of the package, with the ends of its range.
var permitted = []int{
	-most, -most + 1, -most / 2, -1<<32 - 1, -1000003, -65536, -256, -255, -7, -3, -2, -1, 0,
	1, 2, 3, 4, 5, 7, 16, 255, 256, 510, 65535, 1000003, 1<<32 + 1, most / 2, most - 1, most,
}

// outside has numbers that are not numbers of the package.
var outside = []int{most + 1, -most - 1, 2 * most, -2 * most, 1 << 62, math.MaxInt, math.MinInt, math.MinInt + 1}

// divisors returns the permitted numbers that a function may divide by.
func divisors() []int {
	var list []int
	for _, n := range permitted {
		if n >= 1 {
			list = append(list, n)
		}
	}
	return list
}

// sequence returns count numbers of the package that follow a fixed rule and have all magnitudes.
func sequence(count int) []int {
	list := make([]int, count)
	state := uint64(1)
	for i := range list {
		state = state*6364136223846793005 + 1442695040888963407
		n := int(state>>23) >> (i % 41)
		if state>>22&1 == 1 {
			n = -n
		}
		list[i] = n % (most + 1)
	}
	return list
}

// P101: the quotient and the remainder.
func TestFloor(t *testing.T) {
	for _, c := range [][4]int{
		{-7, 2, -4, 1}, {7, 2, 3, 1}, {-8, 2, -4, 0}, {8, 2, 4, 0}, {0, 5, 0, 0}, {-1, 5, -1, 4}, {4, 5, 0, 4},
		{-1, most, -1, most - 1}, {most, most, 1, 0}, {-most, most, -1, 0}, {most, 1, most, 0}, {-most, 1, -most, 0},
	} {
		if q, r, e := num.Floor(c[0], c[1]); q != c[2] || r != c[3] || e != api.OK {
			t.Errorf("Floor(%d, %d) is %d, %d, %d", c[0], c[1], q, r, e)
		}
	}
	for _, a := range append(sequence(1000), permitted...) {
		for _, b := range divisors() {
			if q, r, e := num.Floor(a, b); e != api.OK || q*b+r != a || r < 0 || r >= b {
				t.Fatalf("Floor(%d, %d) is %d, %d, %d", a, b, q, r, e)
			}
		}
	}
}

// P5 and P102: the nearest number, half up.
func TestRound(t *testing.T) {
	for _, c := range [][3]int{
		{-7, 2, -3}, {7, 2, 4}, {-1, 2, 0}, {1, 2, 1}, {-3, 2, -1}, {3, 2, 2}, {4, 3, 1}, {5, 3, 2}, {-4, 3, -1}, {-5, 3, -2},
		{0, 9, 0}, {4, 9, 0}, {5, 9, 1}, {-4, 9, 0}, {-5, 9, -1}, {most, 1, most}, {-most, 1, -most}, {most, most, 1}, {-most, most, -1},
		{most / 2, most, 1}, {most/2 - 1, most, 0}, {-most / 2, most, 0}, {-most/2 - 1, most, -1},
	} {
		if q, e := num.Round(c[0], c[1]); q != c[2] || e != api.OK {
			t.Errorf("Round(%d, %d) is %d, %d", c[0], c[1], q, e)
		}
	}
	for _, a := range append(sequence(1000), permitted...) {
		for _, b := range divisors() {
			q, e := num.Round(a, b)
			if rest := 2*a - 2*b*q; e != api.OK || rest < -b || rest >= b {
				t.Fatalf("Round(%d, %d) is %d, %d", a, b, q, e)
			}
		}
	}
}

// P103: the exact product, the floor, and results that are not numbers of the package.
func TestMulDiv(t *testing.T) {
	// nearly is a number of which five quarters are a quarter more than most.
	const nearly = most - (most-1)/5
	for _, c := range []struct {
		a, b, c, want int
		e             api.Errno
	}{
		{most, most - 1, most, most - 1, api.OK},
		{-7, 3, 2, -11, api.OK}, {7, -3, 2, -11, api.OK}, {-7, -3, 2, 10, api.OK}, {7, 3, 2, 10, api.OK},
		{-6, 3, 2, -9, api.OK}, {0, -5, 3, 0, api.OK}, {-5, 0, 3, 0, api.OK}, {-1, 1, most, -1, api.OK}, {1, 1, most, 0, api.OK},
		{most, most, most, most, api.OK}, {-most, most, most, -most, api.OK}, {-most, -most, most, most, api.OK},
		{most, 1, 1, most, api.OK}, {most, -1, 1, -most, api.OK},
		{nearly, 5, 4, most, api.OK}, {-nearly, -5, 4, most, api.OK},
		{-nearly, 5, 4, 0, api.ErrOver}, {nearly, -5, 4, 0, api.ErrOver},
		{most/2 + 1, 2, 1, 0, api.ErrOver}, {-most/2 - 1, 2, 1, 0, api.ErrOver},
		{most, 2, 1, 0, api.ErrOver}, {most, most, 1, 0, api.ErrOver}, {most, -most, 1, 0, api.ErrOver},
		{most, most, most - 1, 0, api.ErrOver}, {most, 1 << 24, 1, 0, api.ErrOver}, {most, most, 1 << 16, 0, api.ErrOver},
		// The magnitude of this quotient, rounded up, is 2^64.
		{255<<32 - 1, -255<<32 - 1, 255 * 255, 0, api.ErrOver},
	} {
		if q, e := num.MulDiv(c.a, c.b, c.c); q != c.want || e != c.e {
			t.Errorf("MulDiv(%d, %d, %d) is %d, %d", c.a, c.b, c.c, q, e)
		}
	}
}

func TestMulDivIsExact(t *testing.T) {
	factors := append(sequence(200), permitted...)
	for _, a := range factors {
		for _, b := range factors {
			product := new(big.Int).Mul(big.NewInt(int64(a)), big.NewInt(int64(b)))
			for _, c := range divisors() {
				compareMulDiv(t, a, b, c, product)
			}
		}
	}
}

func compareMulDiv(t *testing.T, a, b, c int, product *big.Int) {
	t.Helper()
	// Div of package big rounds down if the divisor is positive.
	want, code := new(big.Int).Div(product, big.NewInt(int64(c))), api.OK
	if want.CmpAbs(big.NewInt(most)) > 0 {
		want, code = new(big.Int), api.ErrOver
	}
	if q, e := num.MulDiv(a, b, c); e != code || int64(q) != want.Int64() {
		t.Fatalf("MulDiv(%d, %d, %d) is %d, %d instead of %d, %d", a, b, c, q, e, want, code)
	}
}

// P104: the root, and its own range, which is not that of P100.
func TestRoot(t *testing.T) {
	for _, c := range [][2]int{
		{0, 0}, {1, 1}, {2, 1}, {3, 1}, {4, 2}, {8, 2}, {9, 3}, {most, 1 << 20}, {most + 1, 1 << 20}, {most - 1, 1<<20 - 1},
		{1 << 62, 1 << 31}, {1<<62 - 1, 1<<31 - 1},
	} {
		if r, e := num.Root(c[0]); r != c[1] || e != api.OK {
			t.Errorf("Root(%d) is %d, %d", c[0], r, e)
		}
	}
	for n := range 5000 {
		checkRoot(t, n)
	}
	for _, n := range sequence(5000) {
		root := max(n, -n) % (1 << 31)
		checkRoot(t, root)
		checkRoot(t, root*root)
		checkRoot(t, root*root+1)
		checkRoot(t, root*root+2*root)
		checkRoot(t, max(root*root-1, 0))
	}
	for _, n := range []int{-1, -2, -most, math.MinInt, 1<<62 + 1, math.MaxInt} {
		if r, e := num.Root(n); r != 0 || e != api.ErrRange {
			t.Errorf("Root(%d) is %d, %d", n, r, e)
		}
	}
}

func checkRoot(t *testing.T, n int) {
	t.Helper()
	if r, e := num.Root(n); e != api.OK || r < 0 || r*r > n || (r+1)*(r+1) <= n {
		t.Fatalf("Root(%d) is %d, %d", n, r, e)
	}
}

// P105: the greatest common divisor.
func TestGcd(t *testing.T) {
	for _, c := range [][3]int{
		{0, 0, 0}, {0, -5, 5}, {-5, 0, 5}, {5, 0, 5}, {0, 5, 5}, {-12, 18, 6}, {12, -18, 6}, {-12, -18, 6}, {7, 13, 1}, {1, most, 1},
		{most, most, most}, {-most, most, most}, {-most, -most, most}, {-most, 0, most}, {0, -most, most}, {most, most - 1, 1},
		{most, 3 << 30, 1 << 30}, {591286729879, 365435296162, 1},
	} {
		if g, e := num.Gcd(c[0], c[1]); g != c[2] || e != api.OK {
			t.Errorf("Gcd(%d, %d) is %d, %d", c[0], c[1], g, e)
		}
	}
	for a := -40; a <= 40; a++ {
		for b := -40; b <= 40; b++ {
			if g, e := num.Gcd(a, b); g != triedGcd(a, b) || e != api.OK {
				t.Errorf("Gcd(%d, %d) is %d, %d", a, b, g, e)
			}
		}
	}
}

// triedGcd tries all divisors of numbers up to 40.
func triedGcd(a, b int) int {
	if a == 0 && b == 0 {
		return 0
	}
	for d := 40; ; d-- {
		if a%d == 0 && b%d == 0 {
			return d
		}
	}
}

// P106: the product of two amounts, for all amounts.
func TestMul255(t *testing.T) {
	for _, c := range [][3]uint8{{128, 128, 64}, {255, 255, 255}, {255, 77, 77}, {77, 255, 77}, {0, 255, 0}, {1, 127, 0}, {1, 128, 1}} {
		if v := num.Mul255(c[0], c[1]); v != c[2] {
			t.Errorf("Mul255(%d, %d) is %d", c[0], c[1], v)
		}
	}
	for a := range 256 {
		for b := range 256 {
			v := num.Mul255(uint8(a), uint8(b))
			if rest := 2*a*b - 510*int(v); rest < -255 || rest >= 255 {
				t.Fatalf("Mul255(%d, %d) is %d", a, b, v)
			}
		}
	}
}

// P106: the amount between two amounts, for all amounts and proportions.
func TestMix255(t *testing.T) {
	for _, c := range [][4]uint8{{0, 255, 100, 100}, {9, 200, 0, 9}, {9, 200, 255, 200}, {200, 9, 255, 9}, {7, 7, 99, 7}, {0, 1, 127, 0}, {0, 1, 128, 1}} {
		if v := num.Mix255(c[0], c[1], c[2]); v != c[3] {
			t.Errorf("Mix255(%d, %d, %d) is %d", c[0], c[1], c[2], v)
		}
	}
	for a := range 256 {
		for b := range 256 {
			for p := range 256 {
				v := num.Mix255(uint8(a), uint8(b), uint8(p))
				if rest := 2*((255-p)*a+p*b) - 510*int(v); rest < -255 || rest >= 255 {
					t.Fatalf("Mix255(%d, %d, %d) is %d", a, b, p, v)
				}
			}
		}
	}
}

// P100 and P3: a number outside the range, in any place, comes before all other errors, and the results are zero.
func TestOutside(t *testing.T) {
	for _, far := range outside {
		for _, other := range append(outside, permitted...) {
			for _, pair := range [][2]int{{far, other}, {other, far}} {
				checkPairOutside(t, pair[0], pair[1])
			}
			for _, third := range []int{far, -most, -1, 0, 1, most} {
				for _, c := range [][3]int{{far, other, third}, {other, far, third}, {other, third, far}} {
					if q, e := num.MulDiv(c[0], c[1], c[2]); q != 0 || e != api.ErrRange {
						t.Fatalf("MulDiv(%d, %d, %d) is %d, %d", c[0], c[1], c[2], q, e)
					}
				}
			}
		}
	}
}

func checkPairOutside(t *testing.T, a, b int) {
	t.Helper()
	if q, r, e := num.Floor(a, b); q != 0 || r != 0 || e != api.ErrRange {
		t.Fatalf("Floor(%d, %d) is %d, %d, %d", a, b, q, r, e)
	}
	if q, e := num.Round(a, b); q != 0 || e != api.ErrRange {
		t.Fatalf("Round(%d, %d) is %d, %d", a, b, q, e)
	}
	if g, e := num.Gcd(a, b); g != 0 || e != api.ErrRange {
		t.Fatalf("Gcd(%d, %d) is %d, %d", a, b, g, e)
	}
}

// P101 to P103: a divisor that is less than 1 comes before a result that is too large.
func TestDivisor(t *testing.T) {
	for _, a := range permitted {
		for _, b := range []int{0, -1, -2, -most + 1, -most} {
			if q, r, e := num.Floor(a, b); q != 0 || r != 0 || e != api.ErrArg {
				t.Errorf("Floor(%d, %d) is %d, %d, %d", a, b, q, r, e)
			}
			if q, e := num.Round(a, b); q != 0 || e != api.ErrArg {
				t.Errorf("Round(%d, %d) is %d, %d", a, b, q, e)
			}
			for _, other := range permitted {
				if q, e := num.MulDiv(a, other, b); q != 0 || e != api.ErrArg {
					t.Fatalf("MulDiv(%d, %d, %d) is %d, %d", a, other, b, q, e)
				}
			}
		}
	}
}

// P1 and P2: any arguments give a result, and the same one again.
func TestSameAgain(t *testing.T) {
	all := append(append(sequence(50), outside...), permitted...)
	for _, a := range all {
		if results(a, a, a) != results(a, a, a) {
			t.Fatal(a)
		}
		for _, b := range all {
			if results(a, b, 3) != results(a, b, 3) || results(3, a, b) != results(3, a, b) {
				t.Fatal(a, b)
			}
		}
	}
}

func results(a, b, c int) [11]int {
	quotient, rest, code0 := num.Floor(a, b)
	nearest, code1 := num.Round(a, b)
	part, code2 := num.MulDiv(a, b, c)
	root, code3 := num.Root(a)
	divisor, code4 := num.Gcd(a, b)
	return [11]int{quotient, rest, int(code0), nearest, int(code1), part, int(code2), root, int(code3), divisor, int(code4)}
}
