package curve_test

import (
	"math"
	"math/big"
	"reflect"
	"slices"
	"testing"

	"printworks/api"
	"printworks/curve"
)

// The signatures are those of the chapter.
var (
	_ func(api.Curve) api.Errno                         = curve.Check
	_ func(api.Curve, int) (int, api.Errno)             = curve.At
	_ func(api.Curve, int) (int, api.Errno)             = curve.Inverse
	_ func(api.Curve) ([]int, api.Errno)                = curve.Table
	_ func(api.Curve) (api.Curve, api.Errno)            = curve.Flip
	_ func([]api.CurvePoint) (api.Curve, api.Errno)     = curve.Fit
	_ func(api.Curve, api.Curve) (api.Curve, api.Errno) = curve.Calibrate
)

const full = 65280

// unlikely fills the unused capacity of arguments.
var unlikely = api.CurvePoint{X: -77, Y: -77}

// notFine are numbers that are not fine tones.
var notFine = []int{-1, full + 1, -full, math.MaxInt, math.MinInt}

// points returns the points whose X and Y are given.
func points(numbers ...int) []api.CurvePoint {
	var list []api.CurvePoint
	for i := 0; i < len(numbers); i += 2 {
		list = append(list, api.CurvePoint{X: numbers[i], Y: numbers[i+1]})
	}
	return list
}

func of(numbers ...int) api.Curve {
	return api.Curve{Points: points(numbers...)}
}

// level returns a curve of n points, all with the same Y.
func level(n, y int) api.Curve {
	var list []api.CurvePoint
	for i := range n - 1 {
		list = append(list, api.CurvePoint{X: i, Y: y})
	}
	return api.Curve{Points: append(list, api.CurvePoint{X: full, Y: y})}
}

// bent is the curve of the chapter's examples.
func bent() api.Curve { return of(0, 0, 32640, 16320, full, full) }

// straight is the curve whose value is its argument.
func straight() api.Curve { return of(0, 0, full, full) }

// remarkable returns valid curves that are unlike most others.
func remarkable() []api.Curve {
	return []api.Curve{
		bent(), straight(),
		of(0, 0, 1, full, full, full),
		of(0, 0, full-1, 0, full, full),
		of(0, 0, 30000, 0, 30001, full, full, full),
		of(0, 0, full, 0),
		of(0, full, full, full),
		of(0, 5, full, 9),
		of(0, 7, full, 8),
		of(0, 10, 100, 10, 101, 20, 102, 20, 103, 4000, full, full-1),
		of(0, 0, 20000, 30000, 40000, 30000, full, full),
		of(0, 100, 3, 101, 7, 105, 40000, 106, full, 60000),
		level(33, 0), level(33, 12345), level(33, full),
	}
}

// picker picks numbers, always the same ones.
type picker struct{ state uint64 }

func (p *picker) below(n int) int {
	p.state = p.state*6364136223846793005 + 1442695040888963407
	return int(p.state>>33) % n
}

// between returns a number from a to b.
func (p *picker) between(a, b int) int {
	return a + p.below(b-a+1)
}

// samples returns at most n samples whose X begin at or after first, at most far from one another, with Y up to most.
func (p *picker) samples(first, n, far, most int) []api.CurvePoint {
	var list []api.CurvePoint
	for x := first; len(list) < n && x <= full; x += p.between(1, far) {
		list = append(list, api.CurvePoint{X: x, Y: p.below(most + 1)})
	}
	return list
}

// curve returns a valid curve of 2 to 33 points.
func (p *picker) curve() api.Curve {
	far := []int{1, 5, 300, 2040, 9000}[p.below(5)]
	most := []int{9, 1000, full, full}[p.below(4)]
	list := p.samples(0, p.between(1, 32), far, most)
	if end := &list[len(list)-1]; end.X == full && len(list) > 1 {
		list = list[:len(list)-1]
	}
	list = append(list, api.CurvePoint{X: full, Y: p.below(most + 1)})
	var heights []int
	for _, q := range list {
		heights = append(heights, q.Y)
	}
	slices.Sort(heights)
	for i := range list {
		list[i].Y = heights[i]
	}
	return api.Curve{Points: list}
}

// someCurves returns the remarkable curves and n picked ones.
func someCurves(p *picker, n int) []api.Curve {
	list := remarkable()
	for range n {
		list = append(list, p.curve())
	}
	return list
}

// round is Round of a and b, neither of which is negative.
func round(a, b int) int { return (2*a + b) / (2 * b) }

// valuesOf returns the values of a curve at all fine tones, as the words of the chapter say.
func valuesOf(c api.Curve) []int {
	list := make([]int, full+1)
	for i, to := range c.Points {
		list[to.X] = to.Y
		if i == 0 {
			continue
		}
		from := c.Points[i-1]
		for x := from.X + 1; x < to.X; x++ {
			list[x] = from.Y + round((to.Y-from.Y)*(x-from.X), to.X-from.X)
		}
	}
	return list
}

// leastOf returns the least fine tone at which the value is at least y, or -1.
func leastOf(values []int, y int) int {
	return slices.IndexFunc(values, func(v int) bool { return v >= y })
}

func isValid(t *testing.T, c api.Curve) {
	t.Helper()
	if e := curve.Check(c); e != api.OK {
		t.Fatal(c, "Check", e)
	}
}

// isCurve checks a result that is a curve.
func isCurve(t *testing.T, what any, got api.Curve, e api.Errno, want api.Curve) {
	t.Helper()
	if e != api.OK || !slices.Equal(got.Points, want.Points) {
		t.Fatal(what, got, e, "instead of", want)
	}
	isValid(t, got)
}

func hasValue(t *testing.T, c api.Curve, x, want int) {
	t.Helper()
	if y, e := curve.At(c, x); y != want || e != api.OK {
		t.Fatal(c, "At", x, "is", y, e, "instead of", want)
	}
}

func hasTone(t *testing.T, c api.Curve, y, want int) {
	t.Helper()
	if x, e := curve.Inverse(c, y); x != want || e != api.OK {
		t.Fatal(c, "Inverse of", y, "is", x, e, "instead of", want)
	}
}

func isFitted(t *testing.T, samples []api.CurvePoint, want api.Curve) {
	t.Helper()
	got, e := curve.Fit(samples)
	isCurve(t, samples, got, e, want)
}

func isCalibrated(t *testing.T, measured, target, want api.Curve) {
	t.Helper()
	got, e := curve.Calibrate(measured, target)
	isCurve(t, []api.Curve{measured, target}, got, e, want)
}

// The limits of the chapter.
func TestLimits(t *testing.T) {
	if got := []int{api.Full, api.CurvePoints, api.CurveSamples}; !slices.Equal(got, []int{full, 33, 31}) {
		t.Error(got)
	}
}

// The examples of the chapter.
func TestExamples(t *testing.T) {
	hasValue(t, bent(), 1, 1)
	hasValue(t, bent(), 48960, 40800)
	hasTone(t, bent(), 16321, 32641)
	table, e := curve.Table(bent())
	if e != api.OK || table[0] != 0 || table[128] != 65 || table[255] != 255 {
		t.Error(table, e)
	}
	flipped, e := curve.Flip(bent())
	isCurve(t, "Flip", flipped, e, of(0, 0, 32640, 48960, full, full))
	isFitted(t, points(0, 10, 100, 4, 200, 20), of(0, 7, 100, 7, 200, 20, full, 20))
	c, e := curve.Calibrate(bent(), straight())
	if e != api.OK || c.Points[1] != (api.CurvePoint{X: 4080, Y: 8159}) {
		t.Error(c, e)
	}
}

// P300: curves have 2 to 33 points with growing X from 0 to Full, and Y that do not decrease.
func TestPermittedCurves(t *testing.T) {
	p := picker{1}
	for _, c := range someCurves(&p, 5000) {
		isValid(t, c)
	}
	for n := 2; n <= 33; n++ {
		isValid(t, level(n, 0))
		isValid(t, level(n, full))
	}
}

// badCurve is a curve with its error.
type badCurve struct {
	c api.Curve
	e api.Errno
}

// wrongPoints returns curves with one wrong point, at each place of a curve of the given number of points.
func wrongPoints(n int) []badCurve {
	var list []badCurve
	with := func(i int, p api.CurvePoint, e api.Errno) {
		c := api.Curve{Points: slices.Clone(evenly(n).Points)}
		c.Points[i] = p
		list = append(list, badCurve{c, e})
	}
	for i, p := range evenly(n).Points {
		for _, bad := range notFine {
			with(i, api.CurvePoint{X: bad, Y: p.Y}, api.ErrRange)
			with(i, api.CurvePoint{X: p.X, Y: bad}, api.ErrRange)
			with(i, api.CurvePoint{X: bad, Y: bad}, api.ErrRange)
		}
		if i == 0 {
			continue
		}
		before := evenly(n).Points[i-1]
		with(i, api.CurvePoint{X: before.X, Y: p.Y}, api.ErrOrder)
		with(i, api.CurvePoint{X: before.X, Y: before.Y}, api.ErrOrder)
		with(i, api.CurvePoint{X: p.X, Y: before.Y - 1}, api.ErrOrder)
		if i > 1 {
			with(i, api.CurvePoint{X: before.X - 1, Y: p.Y}, api.ErrOrder)
			with(i, api.CurvePoint{X: 0, Y: p.Y}, api.ErrOrder)
			with(i, api.CurvePoint{X: p.X, Y: 0}, api.ErrOrder)
		}
	}
	return list
}

// evenly returns a curve of n points with even distances, whose least Y is 1.
func evenly(n int) api.Curve {
	var c api.Curve
	for i := range n {
		c.Points = append(c.Points, api.CurvePoint{X: full * i / (n - 1), Y: 1 + (full-1)*i/(n-1)})
	}
	return c
}

// badCurves returns curves of every error, and of several ones.
func badCurves() []badCurve {
	list := []badCurve{
		{level(34, 0), api.ErrLarge},
		{level(35, full), api.ErrLarge},
		{level(1000, 0), api.ErrLarge},
		{api.Curve{}, api.ErrArg},
		{api.Curve{Points: []api.CurvePoint{}}, api.ErrArg},
		{of(0, 0), api.ErrArg},
		{of(full, full), api.ErrArg},
		{of(1, 0, full, 0), api.ErrForm},
		{of(0, 0, full-1, 0), api.ErrForm},
		{of(full-1, 0, full, 0), api.ErrForm},
		{of(1, 0, 2, 0), api.ErrForm},
		{of(1, 0, 500, 10, full-1, full), api.ErrForm},
		// The number of points comes first.
		{api.Curve{Points: slices.Repeat(points(-1, -1), 34)}, api.ErrLarge},
		{api.Curve{Points: slices.Repeat(points(5, 5), 34)}, api.ErrLarge},
		{of(-1, -1), api.ErrArg},
		{of(5, 5), api.ErrArg},
		// Each point is examined for both errors before the next one.
		{of(0, 5, 0, full+1, full, 4), api.ErrRange},
		{of(0, 5, 0, 5, full+1, 0), api.ErrOrder},
		{of(0, 5, full, 4, full+1, 4), api.ErrOrder},
		{of(0, 5, full+1, 4, 7, 0), api.ErrRange},
		{of(0, 5, -1, 6), api.ErrRange},
		{of(0, 5, 8, -1), api.ErrRange},
		{of(full+1, 0, full, 0), api.ErrRange},
		// The ends come last.
		{of(1, 5, full, full+1), api.ErrRange},
		{of(1, 5, full, 4), api.ErrOrder},
		{of(1, 5, 1, 5), api.ErrOrder},
		{of(full, 0, 0, 0), api.ErrOrder},
		{of(0, 0, 9, 0, 8, 0), api.ErrOrder},
	}
	for _, n := range []int{2, 3, 4, 33} {
		list = append(list, wrongPoints(n)...)
	}
	return list
}

// P300: each error, and their order.
func TestErrorsOfCurves(t *testing.T) {
	for _, bad := range badCurves() {
		if e := curve.Check(bad.c); e != bad.e {
			t.Error(bad.c, e, "instead of", bad.e)
		}
	}
}

// P300: the other functions first return the error of the curve, also for a number that is not a fine tone.
func TestErrorsOfCurvesComeFirst(t *testing.T) {
	for _, bad := range badCurves() {
		for _, n := range []int{-1, 0, 5, full, full + 1} {
			if y, e := curve.At(bad.c, n); y != 0 || e != bad.e {
				t.Error("At", bad.c, n, y, e)
			}
			if x, e := curve.Inverse(bad.c, n); x != 0 || e != bad.e {
				t.Error("Inverse", bad.c, n, x, e)
			}
		}
		if table, e := curve.Table(bad.c); len(table) != 0 || e != bad.e {
			t.Error("Table", bad.c, table, e)
		}
		if c, e := curve.Flip(bad.c); len(c.Points) != 0 || e != bad.e {
			t.Error("Flip", bad.c, c, e)
		}
		for _, good := range []api.Curve{straight(), of(0, 0, full, 0), of(0, full, full, full)} {
			isNotCalibrated(t, bad.c, good, bad.e)
			isNotCalibrated(t, good, bad.c, bad.e)
		}
	}
}

func isNotCalibrated(t *testing.T, measured, target api.Curve, want api.Errno) {
	t.Helper()
	if c, e := curve.Calibrate(measured, target); c.Points != nil || e != want {
		t.Error("Calibrate", measured, target, c, e, "instead of", want)
	}
}

// P301: the values of many curves at all fine tones.
func TestValues(t *testing.T) {
	p := picker{2}
	for _, c := range someCurves(&p, 40) {
		for x, want := range valuesOf(c) {
			hasValue(t, c, x, want)
		}
	}
}

// P301: values at points and beside them.
func TestValuesAtPoints(t *testing.T) {
	p := picker{3}
	for _, c := range someCurves(&p, 1000) {
		values := valuesOf(c)
		for _, q := range c.Points {
			hasValue(t, c, q.X, q.Y)
			for _, x := range []int{max(q.X-1, 0), min(q.X+1, full)} {
				hasValue(t, c, x, values[x])
			}
		}
	}
}

// P301: halves are rounded up.
func TestHalves(t *testing.T) {
	c := of(0, 10, 2, 11, 4, 14, 8, 15, 12, 18, full, 18)
	for x, want := range []int{10, 11, 11, 13, 14, 14, 15, 15, 15, 16, 17, 17, 18, 18} {
		hasValue(t, c, x, want)
	}
	hasValue(t, of(0, 0, full, 1), full/2-1, 0)
	hasValue(t, of(0, 0, full, 1), full/2, 1)
	hasValue(t, of(0, full-1, full, full), full/2-1, full-1)
	hasValue(t, of(0, full-1, full, full), full/2, full)
}

// P301 and P302: both take fine tones only.
func TestNumbersThatAreNotFine(t *testing.T) {
	for _, c := range remarkable() {
		for _, n := range notFine {
			if y, e := curve.At(c, n); y != 0 || e != api.ErrRange {
				t.Error("At", c, n, y, e)
			}
			if x, e := curve.Inverse(c, n); x != 0 || e != api.ErrRange {
				t.Error("Inverse", c, n, x, e)
			}
		}
	}
}

// P302: the inverse of all values up to the last one; there is none of those above it.
func TestInverses(t *testing.T) {
	p := picker{4}
	for _, c := range someCurves(&p, 15) {
		values := valuesOf(c)
		x := 0
		for y := range full + 1 {
			if y > values[full] {
				hasNoTone(t, c, y)
				continue
			}
			for values[x] < y {
				x++
			}
			hasTone(t, c, y, x)
		}
	}
}

func hasNoTone(t *testing.T, c api.Curve, y int) {
	t.Helper()
	if x, e := curve.Inverse(c, y); x != 0 || e != api.ErrNone {
		t.Fatal(c, "Inverse of", y, "is", x, e)
	}
}

// P302: the inverse of the values at points and beside them, of many curves.
func TestInversesAtPoints(t *testing.T) {
	p := picker{5}
	for _, c := range someCurves(&p, 150) {
		values := valuesOf(c)
		for _, q := range c.Points {
			for y := max(q.Y-1, 0); y <= min(q.Y+1, values[full]); y++ {
				hasTone(t, c, y, leastOf(values, y))
			}
		}
		if top := values[full]; top < full {
			hasNoTone(t, c, top+1)
			hasNoTone(t, c, full)
		}
	}
}

// P302: where a curve is level, the inverse is at the beginning, and values below the first Y belong to 0.
func TestInversesOfLevels(t *testing.T) {
	c := of(0, 50, 100, 50, 200, 80, 300, 80, full, 80)
	hasTone(t, c, 0, 0)
	hasTone(t, c, 49, 0)
	hasTone(t, c, 50, 0)
	hasTone(t, c, 51, 102)
	hasTone(t, c, 80, 199)
	hasNoTone(t, c, 81)
	hasTone(t, of(0, 0, 300, 80, full, 80), 80, 299)
	hasTone(t, of(0, 0, full-1, 0, full, full), full, full)
	hasTone(t, of(0, 0, full-1, 0, full, full), 1, full)
	hasTone(t, of(0, 0, full, 0), 0, 0)
	hasNoTone(t, of(0, 0, full, 0), 1)
}

// P303: the tones of a table.
func TestTables(t *testing.T) {
	p := picker{6}
	for _, c := range someCurves(&p, 2000) {
		table, e := curve.Table(c)
		if e != api.OK || len(table) != 256 {
			t.Fatal(c, len(table), e)
		}
		values := valuesOf(c)
		for v, got := range table {
			if want := round(values[256*v], 256); got != want {
				t.Fatal(c, v, got, "instead of", want)
			}
		}
	}
}

// P303: halves of tones are rounded up, and the value is rounded first.
func TestRoundedTables(t *testing.T) {
	for _, c := range []struct{ y, want int }{{0, 0}, {127, 0}, {128, 1}, {129, 1}, {383, 1}, {384, 2}, {full - 129, 254}, {full - 128, 255}, {full, 255}} {
		table, e := curve.Table(of(0, c.y, full, c.y))
		if e != api.OK || !slices.Equal(table, slices.Repeat([]int{c.want}, 256)) {
			t.Error(c, table, e)
		}
	}
	// The value at the tone 1 is 127.5, which is 128.
	table, e := curve.Table(of(0, 127, 512, 128, full, 128))
	if e != api.OK || table[0] != 0 || table[1] != 1 {
		t.Error(table, e)
	}
	table, e = curve.Table(straight())
	for v, got := range table {
		if got != v || e != api.OK {
			t.Error(v, got, e)
		}
	}
}

// P304: the points of a flipped curve; flipped twice, it is as before.
func TestFlipped(t *testing.T) {
	p := picker{7}
	for _, c := range someCurves(&p, 3000) {
		want := make([]api.CurvePoint, len(c.Points))
		for i, q := range c.Points {
			want[len(want)-1-i] = api.CurvePoint{X: full - q.X, Y: full - q.Y}
		}
		flipped, e := curve.Flip(c)
		isCurve(t, c, flipped, e, api.Curve{Points: want})
		again, e := curve.Flip(flipped)
		isCurve(t, c, again, e, c)
	}
	flipped, e := curve.Flip(of(0, 10, 100, 300, full, 4000))
	isCurve(t, "Flip", flipped, e, of(0, 61280, 65180, 64980, full, 65270))
}

// spread puts Y at even distances, from the fine tone 0 or from a greater one.
func spread(first int, heights []int) []api.CurvePoint {
	var list []api.CurvePoint
	for i, y := range heights {
		list = append(list, api.CurvePoint{X: first + 100*i, Y: y})
	}
	return list
}

// withEnds returns the curve of samples with the given heights.
func withEnds(samples []api.CurvePoint, heights []int) api.Curve {
	var list []api.CurvePoint
	if samples[0].X > 0 {
		list = points(0, heights[0])
	}
	for i, s := range samples {
		list = append(list, api.CurvePoint{X: s.X, Y: heights[i]})
	}
	if end := samples[len(samples)-1]; end.X < full {
		list = append(list, api.CurvePoint{X: full, Y: heights[len(heights)-1]})
	}
	return api.Curve{Points: list}
}

// ways is a number that each number up to 6 divides, so that the means of up to 6 numbers, multiplied by it, are whole.
const ways = 60

// meansOf divides up to 6 numbers after each one whose bit is set in cuts; it returns, for each number, the mean of its part, multiplied by ways.
func meansOf(heights []int, cuts int) []int {
	var means []int
	sum, count := 0, 0
	for i, y := range heights {
		sum += y
		count++
		if cuts>>i&1 == 1 || i == len(heights)-1 {
			means = append(means, slices.Repeat([]int{sum * ways / count}, count)...)
			sum, count = 0, 0
		}
	}
	return means
}

// leastSquares tries all divisions of up to 6 numbers for the sequence that never decreases and whose sum of squares is least.
func leastSquares(heights []int) []int {
	best, least := []int(nil), math.MaxInt
	for cuts := range 1 << (len(heights) - 1) {
		means := meansOf(heights, cuts)
		sum := 0
		for i, y := range heights {
			sum += (means[i] - ways*y) * (means[i] - ways*y)
		}
		if slices.IsSorted(means) && sum < least {
			best, least = means, sum
		}
	}
	var fitted []int
	for _, m := range best {
		fitted = append(fitted, round(m, ways))
	}
	return fitted
}

// P305: all sequences of up to 6 samples with small Y.
func TestFittedShort(t *testing.T) {
	for n := 1; n <= 6; n++ {
		heights := make([]int, n)
		for more := true; more; more = next(heights, 5) {
			samples := spread(100*(n%2), heights)
			isFitted(t, samples, withEnds(samples, leastSquares(heights)))
		}
	}
}

// next counts on, with digits below the given number; it tells whether there was a next one.
func next(digits []int, below int) bool {
	for i := range digits {
		digits[i]++
		if digits[i] < below {
			return true
		}
		digits[i] = 0
	}
	return false
}

// fittedExactly returns the fitted value of the sample i: the greatest one, of all beginnings up to it, of the least means of parts that lead to it or beyond.
func fittedExactly(samples []api.CurvePoint, i int) *big.Rat {
	var greatest *big.Rat
	for a := range i + 1 {
		var least *big.Rat
		sum := int64(0)
		for b := a; b < len(samples); b++ {
			sum += int64(samples[b].Y)
			mean := big.NewRat(sum, int64(b-a+1))
			if b >= i && (least == nil || mean.Cmp(least) < 0) {
				least = mean
			}
		}
		if greatest == nil || least.Cmp(greatest) > 0 {
			greatest = least
		}
	}
	return greatest
}

// halfUp is the number, rounded; Div goes to floor, since denominators are positive.
func halfUp(r *big.Rat) int {
	twice := new(big.Int).Add(new(big.Int).Lsh(r.Num(), 1), r.Denom())
	return int(twice.Div(twice, new(big.Int).Lsh(r.Denom(), 1)).Int64())
}

// P305: samples of any number and size.
func TestFitted(t *testing.T) {
	p := picker{8}
	for range 150 {
		first := []int{0, 0, 1, p.below(full + 1), full}[p.below(5)]
		samples := p.samples(first, p.between(1, 31), []int{1, 50, 2100, 9000}[p.below(4)], []int{3, 30, full}[p.below(3)])
		var heights []int
		for i := range samples {
			heights = append(heights, halfUp(fittedExactly(samples, i)))
		}
		isFitted(t, samples, withEnds(samples, heights))
	}
}

// P305: halves of means are rounded up, equal means stay, and one low sample may unite many before it.
func TestFittedGroups(t *testing.T) {
	for _, c := range []struct{ heights, want []int }{
		{[]int{4, 3}, []int{4, 4}},
		{[]int{3, 4}, []int{3, 4}},
		{[]int{3, 3}, []int{3, 3}},
		{[]int{2, 1, 1}, []int{1, 1, 1}},
		{[]int{2, 2, 1}, []int{2, 2, 2}},
		{[]int{1, 0, 1, 0}, []int{1, 1, 1, 1}},
		{[]int{4, 3, 4, 3, 3}, []int{3, 3, 3, 3, 3}},
		{[]int{9, 10, 11, 12, 0}, []int{8, 8, 8, 8, 8}},
		{[]int{0, 1, 2, 3, 2}, []int{0, 1, 2, 3, 3}},
		{[]int{5, 4, 3, 2, 1, 0}, []int{3, 3, 3, 3, 3, 3}},
		{[]int{10, 4, 20, 10, 12, 40}, []int{7, 7, 14, 14, 14, 40}},
		{[]int{full, 0}, []int{32640, 32640}},
		{[]int{full, full, 0}, []int{43520, 43520, 43520}},
		{[]int{0, full}, []int{0, full}},
	} {
		for _, first := range []int{0, 7} {
			samples := spread(first, c.heights)
			isFitted(t, samples, withEnds(samples, c.want))
		}
	}
	falling := make([]int, 31)
	for i := range falling {
		falling[i] = full - i
	}
	isFitted(t, spread(1, falling), withEnds(spread(1, falling), slices.Repeat([]int{full - 15}, 31)))
}

// P305: a point is added at an end only where there is none.
func TestEndsOfFitted(t *testing.T) {
	isFitted(t, points(0, 8), of(0, 8, full, 8))
	isFitted(t, points(full, 8), of(0, 8, full, 8))
	isFitted(t, points(1, 8), of(0, 8, 1, 8, full, 8))
	isFitted(t, points(full-1, 8), of(0, 8, full-1, 8, full, 8))
	isFitted(t, points(0, 0, full, full), straight())
	isFitted(t, points(0, 6, full, 2), of(0, 4, full, 4))
	isFitted(t, points(1, 5, full, 7), of(0, 5, 1, 5, full, 7))
	isFitted(t, points(0, 5, full-1, 7), of(0, 5, full-1, 7, full, 7))
	isFitted(t, points(20, 9, 40, 3, 60, 30, 80, 20), of(0, 6, 20, 6, 40, 6, 60, 25, 80, 25, full, 25))
	most, e := curve.Fit(spread(1, make([]int, 31)))
	if e != api.OK || len(most.Points) != 33 {
		t.Error(most, e)
	}
}

func isNotFitted(t *testing.T, samples []api.CurvePoint, want api.Errno) {
	t.Helper()
	if c, e := curve.Fit(samples); c.Points != nil || e != want {
		t.Error(samples, c, e, "instead of", want)
	}
}

// P305: the errors of samples, and their order. Y may decrease.
func TestErrorsOfSamples(t *testing.T) {
	isNotFitted(t, spread(0, make([]int, 32)), api.ErrLarge)
	isNotFitted(t, spread(0, make([]int, 1000)), api.ErrLarge)
	isNotFitted(t, slices.Repeat(points(-1, -1), 32), api.ErrLarge)
	isNotFitted(t, nil, api.ErrArg)
	isNotFitted(t, []api.CurvePoint{}, api.ErrArg)
	isNotFitted(t, points(5, 6, 5, 7), api.ErrOrder)
	isNotFitted(t, points(0, 6, 0, 6), api.ErrOrder)
	isNotFitted(t, points(5, 6, 4, 7), api.ErrOrder)
	isNotFitted(t, points(5, 6, 4, -1), api.ErrRange)
	isNotFitted(t, points(5, 6, -1, 7), api.ErrRange)
	isNotFitted(t, points(5, 6, 5, 7, -1, 0), api.ErrOrder)
	isNotFitted(t, points(5, 6, 6, full+1, 6, 0), api.ErrRange)
	for _, n := range []int{1, 2, 3, 31} {
		for i := range n {
			for _, bad := range notFine {
				samples := spread(3, make([]int, n))
				samples[i].Y = bad
				isNotFitted(t, samples, api.ErrRange)
				samples[i] = api.CurvePoint{X: bad}
				isNotFitted(t, samples, api.ErrRange)
			}
			if samples := spread(3, make([]int, n)); i > 0 {
				samples[i].X = samples[i-1].X
				isNotFitted(t, samples, api.ErrOrder)
				samples[i].X = samples[i-1].X - 1
				isNotFitted(t, samples, api.ErrOrder)
			}
		}
	}
}

// calibrated returns the calibrated curve as the words of the chapter describe it.
func calibrated(measured, target api.Curve) api.Curve {
	shown, wanted := valuesOf(measured), valuesOf(target)
	var c api.Curve
	for k := range 17 {
		c.Points = append(c.Points, api.CurvePoint{X: 4080 * k, Y: leastOf(shown, wanted[4080*k])})
	}
	return c
}

// P306: curves for many pairs of a measured curve and a target.
func TestCalibrated(t *testing.T) {
	p := picker{9}
	for range 400 {
		measured, target := p.curve(), p.curve()
		if p.below(4) == 0 {
			list := remarkable()
			measured = list[p.below(len(list))]
		}
		if measured.Points[len(measured.Points)-1].Y < target.Points[len(target.Points)-1].Y {
			isNotCalibrated(t, measured, target, api.ErrNone)
			continue
		}
		isCalibrated(t, measured, target, calibrated(measured, target))
	}
}

// P306: a device that shows what it is given needs the target, a target of nothing needs nothing, and a device may suffice just so.
func TestCalibratedSimple(t *testing.T) {
	sixteenths := api.Curve{}
	for k := range 17 {
		sixteenths.Points = append(sixteenths.Points, api.CurvePoint{X: 4080 * k, Y: 4080 * k})
	}
	isCalibrated(t, straight(), straight(), sixteenths)
	c, e := curve.Calibrate(straight(), bent())
	if e != api.OK || c.Points[8] != (api.CurvePoint{X: 32640, Y: 16320}) || c.Points[12] != (api.CurvePoint{X: 48960, Y: 40800}) {
		t.Error(c, e)
	}
	for _, measured := range remarkable() {
		nothing, e := curve.Calibrate(measured, of(0, 0, full, 0))
		if e != api.OK || len(nothing.Points) != 17 || slices.ContainsFunc(nothing.Points, func(q api.CurvePoint) bool { return q.Y != 0 }) {
			t.Error(measured, nothing, e)
		}
	}
	isCalibrated(t, of(0, 0, full-1, 0, full, 9), of(0, 0, full, 9), calibrated(of(0, 0, full-1, 0, full, 9), of(0, 0, full, 9)))
	isNotCalibrated(t, of(0, 0, full, 8), of(0, 0, full, 9), api.ErrNone)
	isNotCalibrated(t, of(0, 0, full, full-1), straight(), api.ErrNone)
	isNotCalibrated(t, of(0, 0, full-1, full-1, full, full-1), of(0, 0, full-1, 0, full, full), api.ErrNone)
}

// P306: the error of the measured curve comes before that of the target, and both before ErrNone.
func TestOrderOfErrorsOfCalibrate(t *testing.T) {
	large, arg, reach, order, form := level(34, 0), of(0, 0), of(0, 0, full, -1), of(0, 1, full, 0), of(1, 0, full, 0)
	bad := []badCurve{{large, api.ErrLarge}, {arg, api.ErrArg}, {reach, api.ErrRange}, {order, api.ErrOrder}, {form, api.ErrForm}}
	for _, a := range bad {
		for _, b := range bad {
			isNotCalibrated(t, a.c, b.c, a.e)
		}
		isNotCalibrated(t, a.c, straight(), a.e)
		isNotCalibrated(t, of(0, 0, full, 0), a.c, a.e)
	}
}

// P306: with the calibrated curve, at its points, the device shows at least the target, and less with any lower tone.
func TestCalibratedDevice(t *testing.T) {
	p := picker{10}
	for range 500 {
		measured, target := p.curve(), p.curve()
		c, e := curve.Calibrate(measured, target)
		if e != api.OK {
			continue
		}
		for _, q := range c.Points {
			wanted, _ := curve.At(target, q.X)
			if shown, _ := curve.At(measured, q.Y); shown < wanted {
				t.Fatal(measured, target, q, shown, wanted)
			}
			if q.Y == 0 {
				continue
			}
			if shown, _ := curve.At(measured, q.Y-1); shown >= wanted {
				t.Fatal(measured, target, q, shown, wanted)
			}
		}
	}
}

// results returns what all functions return for two curves, whose points are samples too, and a number.
func results(a, b api.Curve, n int) []any {
	y, e1 := curve.At(a, n)
	x, e2 := curve.Inverse(a, n)
	table, e3 := curve.Table(a)
	flipped, e4 := curve.Flip(a)
	fitted, e5 := curve.Fit(a.Points)
	made, e6 := curve.Calibrate(a, b)
	return []any{curve.Check(a), y, e1, x, e2, table, e3, flipped, e4, fitted, e5, made, e6}
}

// spoil overwrites the elements of a result, with its unused capacity.
func spoil(result any) {
	switch list := result.(type) {
	case []int:
		for i := range list[:cap(list)] {
			list[:cap(list)][i] = -77
		}
	case api.Curve:
		for i := range list.Points[:cap(list.Points)] {
			list.Points[:cap(list.Points)][i] = unlikely
		}
	}
}

// P2: results are equal for equal arguments, arguments keep their elements and their unused capacity, and nothing is shared.
func TestArgumentsAndResults(t *testing.T) {
	p := picker{11}
	for range 1000 {
		a, b, n := p.curve(), p.curve(), p.below(full+1)
		wholeA, wholeB := append(slices.Clone(a.Points), unlikely, unlikely), append(slices.Clone(b.Points), unlikely, unlikely)
		givenA := api.Curve{Points: slices.Clone(wholeA)[:len(a.Points)]}
		givenB := api.Curve{Points: slices.Clone(wholeB)[:len(b.Points)]}
		want := results(a, b, n)
		first := results(givenA, givenB, n)
		for i := range first {
			spoil(first[i])
			if !reflect.DeepEqual(first[i+1:], want[i+1:]) {
				t.Fatal("shared", a, b, n)
			}
		}
		if !reflect.DeepEqual(results(givenA, givenB, n), want) || !reflect.DeepEqual(results(a, b, n), want) {
			t.Fatal("not equal", a, b, n)
		}
		if !slices.Equal(givenA.Points[:len(wholeA)], wholeA) || !slices.Equal(givenB.Points[:len(wholeB)], wholeB) {
			t.Fatal("changed", a, b, n)
		}
	}
}
