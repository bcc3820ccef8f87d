package tests

import (
	"math"
	"math/rand"
	"testing"

	"loop.example/g03302/impl"
)

// greatestPart is the greatest A and B of a valid golden number.
const greatestPart = 1000000

func gold(a int, b int) impl.Gold { return impl.Gold{A: a, B: b} }

// fibonacciList returns F(0) to F(41).
func fibonacciList() []int {
	f := []int{0, 1}
	for len(f) <= 41 {
		f = append(f, f[len(f)-1]+f[len(f)-2])
	}
	return f
}

// powersByFibonacci returns s to the powers of 0 to 30: 1, 0 + 1*s, 1 - 1*s, -1 + 2*s and so on, with the numbers of Fibonacci.
func powersByFibonacci() []impl.Gold {
	f := fibonacciList()
	powers := []impl.Gold{gold(1, 0)}
	for n := 1; n <= 30; n++ {
		if n%2 == 0 {
			powers = append(powers, gold(f[n-1], -f[n]))
		} else {
			powers = append(powers, gold(-f[n-1], f[n]))
		}
	}
	return powers
}

// inversesByFibonacci returns 1 divided by s to the powers of 0 to 29: 1, 1 + 1*s, 2 + 1*s, 3 + 2*s and so on.
func inversesByFibonacci() []impl.Gold {
	f := fibonacciList()
	inverses := []impl.Gold{}
	for n := range 30 {
		inverses = append(inverses, gold(f[n+1], f[n]))
	}
	return inverses
}

// signByFraction returns the sign of A + B*s with F(40)/F(41) in the place of s.
// The fraction is so close to s that this is the sign for all parts of up to 2000000, and it is 0 for A = B = 0 only.
func signByFraction(a int, b int) int {
	f := fibonacciList()
	switch n := a*f[41] + b*f[40]; {
	case n < 0:
		return -1
	case n > 0:
		return 1
	default:
		return 0
	}
}

// productByMatrices returns the product by the matrices with the rows A, B and B, A - B, which are multiplied as golden numbers are.
func productByMatrices(g impl.Gold, h impl.Gold) impl.Gold {
	row := [2]int{g.A, g.B}
	matrix := [2][2]int{{h.A, h.B}, {h.B, h.A - h.B}}
	product := [2]int{}
	for column := range 2 {
		for i := range 2 {
			product[column] += row[i] * matrix[i][column]
		}
	}
	return gold(product[0], product[1])
}

// isInRange reports whether both parts are those of a valid golden number.
func isInRange(g impl.Gold) bool {
	return max(g.A, -g.A, g.B, -g.B) <= greatestPart
}

// smallGolds returns all golden numbers with parts from -limit to limit.
func smallGolds(limit int) []impl.Gold {
	list := []impl.Gold{}
	for a := -limit; a <= limit; a++ {
		for b := -limit; b <= limit; b++ {
			list = append(list, gold(a, b))
		}
	}
	return list
}

// randomGold returns a valid golden number, often a small one, one near 0 or one at the ends of the range.
func randomGold(random *rand.Rand) impl.Gold {
	switch random.Intn(5) {
	case 0:
		return gold(random.Intn(41)-20, random.Intn(41)-20)
	case 1:
		return gold(random.Intn(2001)-1000, random.Intn(2001)-1000)
	case 2:
		b := random.Intn(2*greatestPart+1) - greatestPart
		return gold(int(math.Round(-0.6180339887498949*float64(b))), b)
	case 3:
		ends := []int{-greatestPart, -greatestPart + 1, -1, 0, 1, greatestPart - 1, greatestPart}
		return gold(ends[random.Intn(len(ends))], ends[random.Intn(len(ends))])
	default:
		return gold(random.Intn(2*greatestPart+1)-greatestPart, random.Intn(2*greatestPart+1)-greatestPart)
	}
}

// invalidGolds returns golden numbers for which GoldOk is false because of A, of B or of both.
func invalidGolds() []impl.Gold {
	list := []impl.Gold{}
	for _, bad := range append(greatInts(), greatestPart+1, -greatestPart-1, 2*greatestPart, -2*greatestPart) {
		list = append(list, gold(bad, bad), gold(bad, -bad))
		for _, part := range []int{0, 1, -1, greatestPart, -greatestPart} {
			list = append(list, gold(bad, part), gold(part, bad))
		}
	}
	return list
}

// checkSumOfGold checks the sum in both orders; a sum that is not wanted is rejected.
func checkSumOfGold(t *testing.T, g impl.Gold, h impl.Gold, want impl.Gold, wantOk bool) {
	t.Helper()
	for _, pair := range [][2]impl.Gold{{g, h}, {h, g}} {
		if got, ok := impl.AddGold(pair[0], pair[1]); got != want || ok != wantOk {
			t.Errorf("AddGold(%v, %v): got %v and %v, want %v and %v", pair[0], pair[1], got, ok, want, wantOk)
		}
	}
}

// checkProductOfGold checks the product in both orders.
func checkProductOfGold(t *testing.T, g impl.Gold, h impl.Gold, want impl.Gold, wantOk bool) {
	t.Helper()
	for _, pair := range [][2]impl.Gold{{g, h}, {h, g}} {
		if got, ok := impl.TimesGold(pair[0], pair[1]); got != want || ok != wantOk {
			t.Errorf("TimesGold(%v, %v): got %v and %v, want %v and %v", pair[0], pair[1], got, ok, want, wantOk)
		}
	}
}

func checkSign(t *testing.T, g impl.Gold, want int) {
	t.Helper()
	if got := impl.SignOf(g); got != want {
		t.Errorf("SignOf(%v): got %d, want %d", g, got, want)
	}
}

// checkOrder checks how two valid numbers compare, in both orders.
func checkOrder(t *testing.T, g impl.Gold, h impl.Gold, want int) {
	t.Helper()
	if got := impl.CompareGold(g, h); got != want {
		t.Errorf("CompareGold(%v, %v): got %d, want %d", g, h, got, want)
	}
	if got := impl.CompareGold(h, g); got != -want {
		t.Errorf("CompareGold(%v, %v): got %d, want %d", h, g, got, -want)
	}
}

// checkPairOfGold checks all functions of two valid numbers, and returns whether the sum and the product are valid.
func checkPairOfGold(t *testing.T, g impl.Gold, h impl.Gold) (bool, bool) {
	t.Helper()
	sum, product := gold(g.A+h.A, g.B+h.B), productByMatrices(g, h)
	if isInRange(sum) {
		checkSumOfGold(t, g, h, sum, true)
	} else {
		checkSumOfGold(t, g, h, impl.Gold{}, false)
	}
	if isInRange(product) {
		checkProductOfGold(t, g, h, product, true)
	} else {
		checkProductOfGold(t, g, h, impl.Gold{}, false)
	}
	checkSign(t, g, signByFraction(g.A, g.B))
	checkOrder(t, g, h, signByFraction(g.A-h.A, g.B-h.B))
	return isInRange(sum), isInRange(product)
}

// addAll returns the sum of valid numbers whose sums are all valid.
func addAll(t *testing.T, list ...impl.Gold) impl.Gold {
	t.Helper()
	sum := impl.Gold{}
	for _, g := range list {
		next, ok := impl.AddGold(sum, g)
		if !ok {
			t.Fatalf("AddGold(%v, %v) is rejected", sum, g)
		}
		sum = next
	}
	return sum
}

// timesAll returns the product of valid numbers whose products are all valid.
func timesAll(t *testing.T, list ...impl.Gold) impl.Gold {
	t.Helper()
	product := gold(1, 0)
	for _, g := range list {
		next, ok := impl.TimesGold(product, g)
		if !ok {
			t.Fatalf("TimesGold(%v, %v) is rejected", product, g)
		}
		product = next
	}
	return product
}

func TestRangeOfGolds(t *testing.T) {
	ends := []int{-greatestPart, -greatestPart + 1, -1, 0, 1, greatestPart - 1, greatestPart}
	for _, a := range ends {
		for _, b := range ends {
			if !impl.GoldOk(gold(a, b)) {
				t.Errorf("GoldOk(%d, %d) is false", a, b)
			}
		}
	}
	for _, g := range invalidGolds() {
		if impl.GoldOk(g) {
			t.Errorf("GoldOk(%v) is true", g)
		}
	}
}

func TestAllSmallGolds(t *testing.T) {
	for _, g := range smallGolds(9) {
		for _, h := range smallGolds(9) {
			checkPairOfGold(t, g, h)
		}
	}
}

func TestRandomGolds(t *testing.T) {
	random := rand.New(rand.NewSource(11))
	sums, products, rejectedSums, rejectedProducts := 0, 0, 0, 0
	for range 100000 {
		sumOk, productOk := checkPairOfGold(t, randomGold(random), randomGold(random))
		if sumOk {
			sums++
		} else {
			rejectedSums++
		}
		if productOk {
			products++
		} else {
			rejectedProducts++
		}
	}
	if min(sums, products, rejectedSums, rejectedProducts) < 10000 {
		t.Errorf("only %d sums, %d products, and %d and %d that are rejected", sums, products, rejectedSums, rejectedProducts)
	}
}

func TestRulesOfArithmetic(t *testing.T) {
	zero, one := impl.Gold{}, gold(1, 0)
	for _, g := range smallGolds(3) {
		checkSumOfGold(t, g, zero, g, true)
		checkSumOfGold(t, g, gold(-g.A, -g.B), zero, true)
		checkProductOfGold(t, g, zero, zero, true)
		checkProductOfGold(t, g, one, g, true)
		checkProductOfGold(t, g, gold(-1, 0), gold(-g.A, -g.B), true)
		for _, h := range smallGolds(3) {
			for _, i := range smallGolds(2) {
				if addAll(t, g, addAll(t, h, i)) != addAll(t, addAll(t, g, h), i) {
					t.Errorf("the sum of %v, %v and %v depends on the order", g, h, i)
				}
				if timesAll(t, g, timesAll(t, h, i)) != timesAll(t, timesAll(t, g, h), i) {
					t.Errorf("the product of %v, %v and %v depends on the order", g, h, i)
				}
				if timesAll(t, g, addAll(t, h, i)) != addAll(t, timesAll(t, g, h), timesAll(t, g, i)) {
					t.Errorf("the product of %v and the sum of %v and %v is not the sum of the products", g, h, i)
				}
			}
		}
	}
}

func TestOrderObeysArithmetic(t *testing.T) {
	for _, g := range smallGolds(4) {
		for _, h := range smallGolds(4) {
			if got := impl.SignOf(timesAll(t, g, h)); got != impl.SignOf(g)*impl.SignOf(h) {
				t.Errorf("the sign of %v times %v: got %d", g, h, got)
			}
			if impl.SignOf(g) > 0 && impl.SignOf(h) > 0 && impl.SignOf(addAll(t, g, h)) != 1 {
				t.Errorf("the sum of %v and %v is not greater than 0", g, h)
			}
			for _, i := range smallGolds(1) {
				checkOrder(t, addAll(t, g, i), addAll(t, h, i), impl.CompareGold(g, h))
			}
			if impl.SignOf(addAll(t, g, gold(-h.A, -h.B))) != impl.CompareGold(g, h) {
				t.Errorf("the sign of %v minus %v is not their order", g, h)
			}
		}
	}
}

func TestSquareOfS(t *testing.T) {
	s := gold(0, 1)
	checkProductOfGold(t, s, s, gold(1, -1), true)
	// 1 + 2*s is the square root of 5.
	checkProductOfGold(t, gold(1, 2), gold(1, 2), gold(5, 0), true)
	checkProductOfGold(t, gold(1, 1), s, gold(1, 0), true)
}

func TestSumsAtTheEndsOfTheRange(t *testing.T) {
	for _, sign := range []int{1, -1} {
		end := sign * greatestPart
		checkSumOfGold(t, gold(end-sign, 0), gold(sign, 0), gold(end, 0), true)
		checkSumOfGold(t, gold(0, end-sign), gold(0, sign), gold(0, end), true)
		checkSumOfGold(t, gold(end, end), gold(0, 0), gold(end, end), true)
		checkSumOfGold(t, gold(end, end), gold(-end, -end), gold(0, 0), true)
		checkSumOfGold(t, gold(end, -end), gold(-sign, sign), gold(end-sign, sign-end), true)
		checkSumOfGold(t, gold(end, 0), gold(sign, 0), impl.Gold{}, false)
		checkSumOfGold(t, gold(0, end), gold(0, sign), impl.Gold{}, false)
		// Only one of the parts leaves the range.
		checkSumOfGold(t, gold(end, end), gold(sign, -sign), impl.Gold{}, false)
		checkSumOfGold(t, gold(end, end), gold(-sign, sign), impl.Gold{}, false)
		checkSumOfGold(t, gold(end, end), gold(end, end), impl.Gold{}, false)
	}
}

func TestProductsAtTheEndsOfTheRange(t *testing.T) {
	checkProductOfGold(t, gold(1000, 0), gold(1000, 0), gold(1000000, 0), true)
	checkProductOfGold(t, gold(1000, 0), gold(-1000, 0), gold(-1000000, 0), true)
	checkProductOfGold(t, gold(-1000, 0), gold(-1000, 0), gold(1000000, 0), true)
	checkProductOfGold(t, gold(0, 1000), gold(0, 1000), gold(1000000, -1000000), true)
	checkProductOfGold(t, gold(0, -1000), gold(0, 1000), gold(-1000000, 1000000), true)
	checkProductOfGold(t, gold(1000, 0), gold(0, 1000), gold(0, 1000000), true)
	checkProductOfGold(t, gold(1000000, 1000000), gold(-1, 0), gold(-1000000, -1000000), true)
	checkProductOfGold(t, gold(1000, 0), gold(1001, 0), impl.Gold{}, false)
	checkProductOfGold(t, gold(-1000, 0), gold(1001, 0), impl.Gold{}, false)
	checkProductOfGold(t, gold(1000, 0), gold(0, 1001), impl.Gold{}, false)
	checkProductOfGold(t, gold(1000, 0), gold(0, -1001), impl.Gold{}, false)
	// 101 times 9901 is one more than a part can be.
	checkProductOfGold(t, gold(101, 0), gold(9901, 0), impl.Gold{}, false)
	checkProductOfGold(t, gold(101, 0), gold(0, -9901), impl.Gold{}, false)
	// Only A leaves the range, and then only B.
	checkProductOfGold(t, gold(1, 1), gold(500001, 500001), impl.Gold{}, false)
	checkProductOfGold(t, gold(1, 1), gold(500000, 500000), gold(1000000, 500000), true)
	checkProductOfGold(t, gold(1, -1), gold(-333334, 333334), impl.Gold{}, false)
	checkProductOfGold(t, gold(1, -1), gold(-333333, 333333), gold(-666666, 999999), true)
	for _, a := range []int{-greatestPart, greatestPart} {
		for _, b := range []int{-greatestPart, 0, greatestPart} {
			checkProductOfGold(t, gold(a, b), gold(a, b), impl.Gold{}, false)
			checkProductOfGold(t, gold(b, a), gold(a, b), impl.Gold{}, false)
		}
	}
}

func TestProductsWhosePartsLeaveTheRangeOnTheWay(t *testing.T) {
	powers, inverses := powersByFibonacci(), inversesByFibonacci()
	// The products of the parts have 12 digits.
	checkProductOfGold(t, gold(514229, -832040), gold(832040, 514229), gold(0, 1), true)
	checkProductOfGold(t, gold(-317811, 514229), gold(832040, 514229), gold(1, 0), true)
	for n, power := range powers {
		for m, inverse := range inverses {
			if n >= m {
				checkProductOfGold(t, power, inverse, powers[n-m], true)
			} else {
				checkProductOfGold(t, power, inverse, inverses[m-n], true)
			}
		}
	}
	checkProductOfGold(t, gold(2000, 0), gold(2000, 0), impl.Gold{}, false)
	// A is 4000000 - 4000000, but B is 4000000.
	checkProductOfGold(t, gold(2000, 2000), gold(2000, -2000), impl.Gold{}, false)
	checkProductOfGold(t, gold(1000, 1000), gold(1000, -1000), gold(0, 1000000), true)
}

func TestProductsOfNegativeNumbers(t *testing.T) {
	checkProductOfGold(t, gold(-2, 0), gold(-3, 0), gold(6, 0), true)
	checkProductOfGold(t, gold(0, -2), gold(0, -3), gold(6, -6), true)
	checkProductOfGold(t, gold(0, -2), gold(0, 3), gold(-6, 6), true)
	checkProductOfGold(t, gold(-2, -3), gold(-5, -7), gold(31, 8), true)
	checkProductOfGold(t, gold(-2, 3), gold(5, -7), gold(-31, 50), true)
	checkProductOfGold(t, gold(2, -3), gold(5, -7), gold(31, -50), true)
	checkProductOfGold(t, gold(2, 3), gold(-5, 7), gold(11, -22), true)
}

func TestSignsNearZero(t *testing.T) {
	checkSign(t, gold(0, 0), 0)
	for _, g := range []impl.Gold{gold(1, 0), gold(0, 1), gold(1, 1), gold(1, -1), gold(-1, 2), gold(2, -3), gold(-3, 5), gold(5, -8)} {
		checkSign(t, g, 1)
		checkSign(t, gold(-g.A, -g.B), -1)
	}
	for _, g := range []impl.Gold{gold(1, -2), gold(-1, 1), gold(2, -4), gold(-3, 4), gold(3, -5), gold(5, -9), gold(-6, 9)} {
		checkSign(t, g, -1)
		checkSign(t, gold(-g.A, -g.B), 1)
	}
	// All powers are greater than 0; the last one is less than a millionth.
	for _, power := range powersByFibonacci() {
		checkSign(t, power, 1)
		checkSign(t, gold(-power.A, -power.B), -1)
		checkOrder(t, power, impl.Gold{}, 1)
	}
	for b := -greatestPart; b <= greatestPart; b += 97 {
		near := int(math.Round(-0.6180339887498949 * float64(b)))
		for a := near - 1; a <= near+1; a++ {
			checkSign(t, gold(a, b), signByFraction(a, b))
		}
	}
}

func TestSignsAtTheEndsOfTheRange(t *testing.T) {
	end := greatestPart
	for _, g := range []impl.Gold{
		gold(end, 0), gold(0, end), gold(end, end), gold(end, -end), gold(end, 1), gold(end, -1), gold(1, end), gold(-1, end),
		gold(-618033, end), gold(618034, -end),
	} {
		checkSign(t, g, 1)
		checkSign(t, gold(-g.A, -g.B), -1)
	}
}

func TestOrderOfGolds(t *testing.T) {
	checkOrder(t, gold(1, 0), gold(0, 1), 1)
	checkOrder(t, gold(0, 1), gold(1, -1), 1)
	checkOrder(t, gold(0, 2), gold(1, 0), 1)
	checkOrder(t, gold(0, 3), gold(2, 0), -1)
	checkOrder(t, gold(-1, 0), gold(0, -1), -1)
	// 0.618 is less than s, and s is less than 0.619.
	checkOrder(t, gold(618, 0), gold(0, 1000), -1)
	checkOrder(t, gold(619, 0), gold(0, 1000), 1)
	for _, g := range append(smallGolds(5), gold(greatestPart, greatestPart), gold(-greatestPart, -greatestPart), gold(greatestPart, -greatestPart)) {
		checkOrder(t, g, g, 0)
	}
}

func TestOrderOfGoldsWhoseDifferenceLeavesTheRange(t *testing.T) {
	end := greatestPart
	checkOrder(t, gold(end, 0), gold(-1, 0), 1)
	checkOrder(t, gold(0, end), gold(0, -1), 1)
	checkOrder(t, gold(end, end), gold(-end, -end), 1)
	checkOrder(t, gold(end, -end), gold(-end, end), 1)
	checkOrder(t, gold(-end, 0), gold(end, 0), -1)
	// The first difference is -832040 + 1346269*s, which is s to the power of 31; the second one is less by 1.
	checkOrder(t, gold(-416020, 673135), gold(416020, -673134), 1)
	checkOrder(t, gold(-416021, 673135), gold(416020, -673134), -1)
	// The differences are -1236067 + 2000000*s and -1236068 + 2000000*s.
	checkOrder(t, gold(-618034, end), gold(618033, -end), 1)
	checkOrder(t, gold(-618034, end), gold(618034, -end), -1)
}

func TestPowersOfS(t *testing.T) {
	want := powersByFibonacci()
	for n := range 21 {
		if got := impl.PowerOf(n); got != want[n] {
			t.Errorf("PowerOf(%d): got %v, want %v", n, got, want[n])
		}
	}
	if got := impl.PowerOf(20); got != gold(4181, -6765) {
		t.Errorf("PowerOf(20): got %v", got)
	}
	for _, n := range append(greatInts(), -1, -2, -20, -21, 21, 22, 30, 100) {
		if got := impl.PowerOf(n); got != (impl.Gold{}) {
			t.Errorf("PowerOf(%d): got %v", n, got)
		}
	}
}

func TestNeighboringPowersAddUp(t *testing.T) {
	for n := 1; n < 20; n++ {
		checkSumOfGold(t, impl.PowerOf(n), impl.PowerOf(n+1), impl.PowerOf(n-1), true)
	}
	for n := range 21 {
		checkSign(t, impl.PowerOf(n), 1)
		for m := range 21 {
			if n+m <= 20 {
				checkProductOfGold(t, impl.PowerOf(n), impl.PowerOf(m), impl.PowerOf(n+m), true)
			}
			if n < m {
				checkOrder(t, impl.PowerOf(n), impl.PowerOf(m), 1)
			}
		}
	}
}

func TestInvalidGoldsAreRejected(t *testing.T) {
	valid := append(smallGolds(1), gold(greatestPart, greatestPart), gold(-greatestPart, greatestPart), gold(-greatestPart, -greatestPart))
	for _, bad := range invalidGolds() {
		checkSign(t, bad, -2)
		for _, g := range append(valid, bad, gold(-bad.A, -bad.B), gold(greatestPart+1, 0)) {
			checkSumOfGold(t, bad, g, impl.Gold{}, false)
			checkProductOfGold(t, bad, g, impl.Gold{}, false)
			for _, pair := range [][2]impl.Gold{{bad, g}, {g, bad}} {
				if got := impl.CompareGold(pair[0], pair[1]); got != -2 {
					t.Errorf("CompareGold(%v, %v): got %d", pair[0], pair[1], got)
				}
			}
		}
	}
	// The sum and the product would be valid.
	checkSumOfGold(t, gold(greatestPart+1, 0), gold(-1, 0), impl.Gold{}, false)
	checkSumOfGold(t, gold(0, -greatestPart-1), gold(0, 1), impl.Gold{}, false)
	checkProductOfGold(t, gold(greatestPart+1, 0), impl.Gold{}, impl.Gold{}, false)
	checkProductOfGold(t, gold(0, greatestPart+1), impl.Gold{}, impl.Gold{}, false)
}
