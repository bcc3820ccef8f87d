package tests

import (
	"math/rand"
	"slices"
	"testing"

	"loop.example/g03302/impl"
)

func soldier(x int, y int) impl.Soldier { return impl.Soldier{X: x, Y: y} }

// allSoldiers returns the soldiers at all places, those nearest to the border and to the column of the target first.
func allSoldiers() []impl.Soldier {
	list := []impl.Soldier{}
	for y := 0; y <= 8; y++ {
		list = append(list, soldier(0, y))
		for x := 1; x <= 8; x++ {
			list = append(list, soldier(x, y), soldier(-x, y))
		}
	}
	return list
}

// lostSoldiers returns soldiers that are out of the range because of X, of Y or of both.
func lostSoldiers() []impl.Soldier {
	list := []impl.Soldier{soldier(-9, -1), soldier(9, 9), soldier(0, -8), soldier(-8, -8)}
	for n := -8; n <= 8; n++ {
		list = append(list, soldier(9, max(n, 0)), soldier(-9, max(n, 0)), soldier(n, -1), soldier(n, 9))
	}
	for _, bad := range greatInts() {
		list = append(list, soldier(bad, bad), soldier(bad, 0), soldier(bad, 8), soldier(0, bad), soldier(-8, bad), soldier(8, bad))
	}
	return list
}

// badLevels returns numbers that are no levels.
func badLevels() []int {
	return append(greatInts(), 0, 6, -1, -5, 7, 20, 21)
}

// numberTo returns how many steps a soldier is away from the target.
func numberTo(s impl.Soldier, level int) int {
	return max(s.X, -s.X) + s.Y + level
}

// weightByNumber returns the weight of a soldier below the border for one of the levels.
func weightByNumber(s impl.Soldier, level int) impl.Gold {
	if numberTo(s, level) > 20 {
		return impl.Gold{}
	}
	return powersByFibonacci()[numberTo(s, level)]
}

// sumByNumber adds up the weights of soldiers below the border for one of the levels.
func sumByNumber(list []impl.Soldier, level int) impl.Gold {
	sum := impl.Gold{}
	for _, s := range list {
		weight := weightByNumber(s, level)
		sum = gold(sum.A+weight.A, sum.B+weight.B)
	}
	return sum
}

// armyOf returns soldiers at different places whose steps to the target are the numbers.
func armyOf(t *testing.T, level int, numbers ...int) []impl.Soldier {
	t.Helper()
	free, army := allSoldiers(), []impl.Soldier{}
	for _, n := range numbers {
		i := slices.IndexFunc(free, func(s impl.Soldier) bool { return numberTo(s, level) == n })
		if i < 0 {
			t.Fatalf("level %d: no place is left for the number %d of %v", level, n, numbers)
		}
		army, free = append(army, free[i]), slices.Delete(free, i, i+1)
	}
	return army
}

// shuffled returns the same soldiers in another order.
func shuffled(random *rand.Rand, list []impl.Soldier) []impl.Soldier {
	other := slices.Clone(list)
	random.Shuffle(len(other), func(i int, k int) { other[i], other[k] = other[k], other[i] })
	return other
}

// nearestSoldiers returns the soldiers at all places, those with the fewest steps to the target first.
func nearestSoldiers() []impl.Soldier {
	list := allSoldiers()
	slices.SortFunc(list, func(s impl.Soldier, t impl.Soldier) int { return numberTo(s, 1) - numberTo(t, 1) })
	return list
}

func checkArmyOk(t *testing.T, list []impl.Soldier, want bool) {
	t.Helper()
	if got := impl.ArmyOk(list); got != want {
		t.Errorf("ArmyOk(%v): got %v", list, got)
	}
}

func checkWeightTo(t *testing.T, s impl.Soldier, level int, want impl.Gold) {
	t.Helper()
	if got := impl.WeightTo(s, level); got != want {
		t.Errorf("WeightTo(%v, %d): got %v, want %v", s, level, got, want)
	}
}

// checkSumAndReach checks the sum of an army for a level, and whether it may reach the target.
func checkSumAndReach(t *testing.T, list []impl.Soldier, level int, want impl.Gold, wantReach bool) {
	t.Helper()
	if got := impl.ArmySum(list, level); got != want {
		t.Errorf("ArmySum(%v, %d): got %v, want %v", list, level, got, want)
	}
	if got := impl.MayReach(list, level); got != wantReach {
		t.Errorf("MayReach(%v, %d): got %v", list, level, got)
	}
}

// checkArmy checks all functions of a valid army for all levels, and returns for how many of them its sum is at least 1.
func checkArmy(t *testing.T, list []impl.Soldier) int {
	t.Helper()
	checkArmyOk(t, list, true)
	enough := 0
	for level := 1; level <= 5; level++ {
		want := sumByNumber(list, level)
		reach := signByFraction(want.A-1, want.B) >= 0
		checkSumAndReach(t, list, level, want, reach)
		if reach {
			enough++
		}
	}
	for _, level := range badLevels() {
		checkSumAndReach(t, list, level, impl.Gold{}, false)
	}
	return enough
}

// checkNoArmy checks that a list is no army, and so has no sum for any level.
func checkNoArmy(t *testing.T, list []impl.Soldier) {
	t.Helper()
	checkArmyOk(t, list, false)
	for _, level := range append(badLevels(), 1, 2, 3, 4, 5) {
		checkSumAndReach(t, list, level, impl.Gold{}, false)
	}
}

func TestArmiesOfOneSoldier(t *testing.T) {
	for _, s := range allSoldiers() {
		if enough := checkArmy(t, []impl.Soldier{s}); enough != 0 {
			t.Errorf("%v alone is enough for %d levels", s, enough)
		}
	}
	for x := -10; x <= 10; x++ {
		for y := -2; y <= 10; y++ {
			checkArmyOk(t, []impl.Soldier{soldier(x, y)}, -8 <= x && x <= 8 && 0 <= y && y <= 8)
		}
	}
}

func TestEmptyArmy(t *testing.T) {
	for _, list := range [][]impl.Soldier{nil, {}} {
		if enough := checkArmy(t, list); enough != 0 {
			t.Errorf("nobody is enough for %d levels", enough)
		}
	}
}

func TestArmiesOfUpToSixtySoldiers(t *testing.T) {
	near := nearestSoldiers()
	for n := range 61 {
		checkArmy(t, near[:n])
		checkArmy(t, near[len(near)-n:])
	}
	for _, n := range []int{61, 62, 100, len(near)} {
		checkNoArmy(t, near[:n])
		checkNoArmy(t, near[len(near)-n:])
	}
	checkNoArmy(t, slices.Repeat([]impl.Soldier{soldier(0, 0)}, 61))
}

func TestTwoSoldiersAtTheSamePlace(t *testing.T) {
	checkNoArmy(t, []impl.Soldier{{}, {}})
	for _, s := range allSoldiers() {
		checkArmyOk(t, []impl.Soldier{s, s}, false)
		checkArmyOk(t, []impl.Soldier{s, s, s}, false)
	}
	army := nearestSoldiers()[:60]
	for i := range army {
		for k := range i {
			twice := slices.Clone(army)
			twice[i] = twice[k]
			checkArmyOk(t, twice, false)
		}
	}
	checkNoArmy(t, append(slices.Clone(army[:59]), army[0]))
	// These stand at different places, although parts of them are the same.
	checkArmy(t, []impl.Soldier{soldier(1, 2), soldier(2, 1), soldier(-1, 2), soldier(-2, 1), soldier(1, 1), soldier(2, 2)})
}

func TestOneLostSoldierOfAnArmy(t *testing.T) {
	army := nearestSoldiers()[:59]
	for _, lost := range lostSoldiers() {
		checkNoArmy(t, []impl.Soldier{lost})
		for _, i := range []int{0, 1, 30, 59} {
			checkArmyOk(t, slices.Insert(slices.Clone(army), i, lost), false)
		}
		checkNoArmy(t, append(slices.Clone(army), lost))
		checkNoArmy(t, []impl.Soldier{lost, soldier(0, 0), soldier(1, 0)})
	}
}

func TestWeightsOfAllSoldiers(t *testing.T) {
	for _, s := range allSoldiers() {
		for level := 1; level <= 5; level++ {
			checkWeightTo(t, s, level, weightByNumber(s, level))
			checkWeightTo(t, soldier(-s.X, s.Y), level, weightByNumber(s, level))
		}
		for _, level := range badLevels() {
			checkWeightTo(t, s, level, impl.Gold{})
		}
	}
	for _, s := range lostSoldiers() {
		for _, level := range append(badLevels(), 1, 2, 3, 4, 5) {
			checkWeightTo(t, s, level, impl.Gold{})
		}
	}
}

func TestWeightsByHand(t *testing.T) {
	checkWeightTo(t, soldier(0, 0), 1, gold(0, 1))
	checkWeightTo(t, soldier(1, 0), 1, gold(1, -1))
	checkWeightTo(t, soldier(-1, 0), 1, gold(1, -1))
	checkWeightTo(t, soldier(0, 1), 1, gold(1, -1))
	checkWeightTo(t, soldier(0, 0), 2, gold(1, -1))
	checkWeightTo(t, soldier(-1, 1), 1, gold(-1, 2))
	checkWeightTo(t, soldier(0, 0), 5, gold(-3, 5))
	checkWeightTo(t, soldier(2, 3), 4, gold(-21, 34))
	// For the number 20 there is a power, for 21 there is none.
	checkWeightTo(t, soldier(8, 8), 4, gold(4181, -6765))
	checkWeightTo(t, soldier(-8, 7), 5, gold(4181, -6765))
	checkWeightTo(t, soldier(7, 8), 5, gold(4181, -6765))
	checkWeightTo(t, soldier(8, 8), 5, impl.Gold{})
	checkWeightTo(t, soldier(-8, 8), 5, impl.Gold{})
	checkWeightTo(t, soldier(8, 8), 6, impl.Gold{})
	checkWeightTo(t, soldier(0, 0), 6, impl.Gold{})
	checkWeightTo(t, soldier(0, 0), 0, impl.Gold{})
	checkWeightTo(t, soldier(1, 0), 0, impl.Gold{})
	checkWeightTo(t, soldier(2, -1), 1, impl.Gold{})
}

func TestSoldiersTooFarAwayCountNothing(t *testing.T) {
	far := []impl.Soldier{soldier(8, 8), soldier(-8, 8)}
	checkSumAndReach(t, far, 5, impl.Gold{}, false)
	checkSumAndReach(t, append(far, soldier(0, 0)), 5, gold(-3, 5), false)
	checkSumAndReach(t, far, 4, gold(8362, -13530), false)
}

func TestRandomArmies(t *testing.T) {
	random := rand.New(rand.NewSource(13))
	counts := [6]int{}
	for range 3000 {
		army := shuffled(random, nearestSoldiers()[:60+random.Intn(94)])[:random.Intn(61)]
		counts[checkArmy(t, army)]++
		other := shuffled(random, army)
		for i := range other {
			other[i].X = -other[i].X
		}
		for level := 1; level <= 5; level++ {
			checkSumAndReach(t, other, level, impl.ArmySum(army, level), impl.MayReach(army, level))
		}
	}
	if min(counts[0], counts[1], counts[2], counts[3], counts[4]) < 50 || counts[5] > 0 {
		t.Errorf("armies by the number of levels for which they are enough: %v", counts)
	}
}

// exactNumbers returns for each of the first four levels steps of soldiers whose weights add up to exactly 1.
func exactNumbers() map[int][][]int {
	return map[int][][]int{
		1: {{1, 2}, {1, 3, 4}, {2, 2, 3}, {2, 2, 4, 5}, {1, 3, 5, 7, 9, 11, 13, 15, 16}},
		2: {{2, 3, 3, 4}, {2, 3, 3, 5, 6}, {2, 3, 3, 5, 7, 9, 11, 13, 15, 17, 18}},
		3: {{3, 4, 4, 4, 5, 5, 5, 6}, {3, 4, 4, 4, 5, 5, 5, 7, 9, 11, 13, 15, 17, 18}},
		4: {
			{4, 5, 5, 5, 6, 6, 6, 6, 6, 7, 7, 7, 7, 7, 7, 7, 8, 8, 8},
			{4, 5, 5, 5, 6, 6, 6, 6, 6, 7, 7, 7, 7, 7, 7, 7, 8, 8, 9, 11, 13, 15, 17, 19, 20},
		},
	}
}

// checkExactlyOne checks an army whose sum for a level is exactly 1: without one of its soldiers, or for the next level, it is too small.
func checkExactlyOne(t *testing.T, army []impl.Soldier, level int) {
	t.Helper()
	checkSumAndReach(t, army, level, gold(1, 0), true)
	checkSumAndReach(t, army, level+1, sumByNumber(army, level+1), false)
	for i, s := range army {
		others, weight := slices.Delete(slices.Clone(army), i, i+1), weightByNumber(s, level)
		checkSumAndReach(t, others, level, gold(1-weight.A, -weight.B), false)
		// One step farther away is just too far.
		if back := soldier(s.X, s.Y+1); s.Y < 8 && !slices.Contains(army, back) {
			checkSumAndReach(t, append(others, back), level, sumByNumber(append(others, back), level), false)
		}
	}
}

// splitSoldier puts two soldiers, one and two steps farther away, in the place of one: they have the same weight together. It returns false if there are no free places.
func splitSoldier(random *rand.Rand, army []impl.Soldier) ([]impl.Soldier, bool) {
	i := random.Intn(len(army))
	others := slices.Delete(slices.Clone(army), i, i+1)
	for farther := 1; farther <= 2; farther++ {
		free := slices.DeleteFunc(allSoldiers(), func(s impl.Soldier) bool {
			return numberTo(s, 1) != numberTo(army[i], 1)+farther || slices.Contains(others, s)
		})
		if len(free) == 0 {
			return nil, false
		}
		others = append(others, free[random.Intn(len(free))])
	}
	return others, true
}

func TestSumsOfExactlyOne(t *testing.T) {
	random := rand.New(rand.NewSource(14))
	for level, lists := range exactNumbers() {
		for _, numbers := range lists {
			army := armyOf(t, level, numbers...)
			checkArmyOk(t, army, true)
			checkExactlyOne(t, army, level)
			slices.Reverse(army)
			checkExactlyOne(t, army, level)
			checkExactlyOne(t, shuffled(random, army), level)
		}
	}
}

func TestSumsOfExactlyOneByHand(t *testing.T) {
	for _, second := range []impl.Soldier{soldier(1, 0), soldier(-1, 0), soldier(0, 1)} {
		checkExactlyOne(t, []impl.Soldier{soldier(0, 0), second}, 1)
		checkExactlyOne(t, []impl.Soldier{second, soldier(0, 0)}, 1)
	}
	checkExactlyOne(t, []impl.Soldier{soldier(0, 0), soldier(0, 1), soldier(1, 0), soldier(2, 0)}, 2)
	checkExactlyOne(t, []impl.Soldier{soldier(1, 1), soldier(-1, 0), soldier(1, 0), soldier(0, 0)}, 2)
	checkSumAndReach(t, []impl.Soldier{soldier(0, 0), soldier(0, 1), soldier(1, 0), soldier(-1, 0)}, 2, gold(-2, 5), true)
	checkSumAndReach(t, []impl.Soldier{soldier(0, 0), soldier(0, 1), soldier(1, 0)}, 2, gold(-1, 3), false)
	checkSumAndReach(t, []impl.Soldier{soldier(0, 0)}, 1, gold(0, 1), false)
	checkSumAndReach(t, []impl.Soldier{soldier(1, 0), soldier(-1, 0)}, 1, gold(2, -2), false)
}

func TestSumsJustBelowOne(t *testing.T) {
	// What is missing is s to the power of 16, about 0.0005.
	checkSumAndReach(t, armyOf(t, 1, 1, 3, 5, 7, 9, 11, 13, 15), 1, gold(1-610, 987), false)
	// What is missing is s to the power of 18, then that of 20, about 0.00007.
	checkSumAndReach(t, armyOf(t, 1, 1, 3, 5, 7, 9, 11, 13, 15, 17), 1, gold(1-1597, 2584), false)
	long := []int{4, 5, 5, 5, 6, 6, 6, 6, 6, 7, 7, 7, 7, 7, 7, 7, 8, 8, 9, 11, 13, 15, 17, 19}
	checkSumAndReach(t, armyOf(t, 4, long...), 4, gold(1-4181, 6765), false)
	checkSumAndReach(t, armyOf(t, 4, append(long, 20)...), 4, gold(1, 0), true)
	// Two soldiers with the number 20 are that much too many.
	checkSumAndReach(t, append(armyOf(t, 4, long...), soldier(8, 8), soldier(-8, 8)), 4, gold(1+4181, -6765), true)
}

func TestSoldiersSplitInTwoHaveTheSameSum(t *testing.T) {
	random := rand.New(rand.NewSource(15))
	for level := 1; level <= 4; level++ {
		for range 60 {
			army := armyOf(t, level, exactNumbers()[level][0]...)
			for range random.Intn(80) {
				if more, ok := splitSoldier(random, army); ok && len(more) <= 60 {
					army = more
				}
			}
			checkArmyOk(t, army, true)
			checkExactlyOne(t, army, level)
		}
	}
}

func TestNoArmyReachesTheFifthRow(t *testing.T) {
	checkSumAndReach(t, nearestSoldiers()[:60], 5, sumByNumber(nearestSoldiers()[:60], 5), false)
	// Not even the soldiers at all places have weights that add up to 1: no army has more.
	sum := impl.Gold{}
	for _, s := range allSoldiers() {
		sum = addAll(t, sum, impl.WeightTo(s, 5))
	}
	checkOrder(t, sum, gold(1, 0), -1)
}

func TestLeastArmies(t *testing.T) {
	for level, want := range map[int]int{1: 2, 2: 4, 3: 8, 4: 19, 0: -1, 5: -1, 6: -1} {
		if got := impl.LeastArmy(level); got != want {
			t.Errorf("LeastArmy(%d): got %d, want %d", level, got, want)
		}
	}
	for _, level := range badLevels() {
		if got := impl.LeastArmy(level); got != -1 {
			t.Errorf("LeastArmy(%d): got %d", level, got)
		}
	}
}

func TestNoArmyIsLessThanTheLeast(t *testing.T) {
	random := rand.New(rand.NewSource(16))
	near := nearestSoldiers()
	for level := 1; level <= 4; level++ {
		least := impl.LeastArmy(level)
		if n := len(exactNumbers()[level][0]); n != least {
			t.Errorf("LeastArmy(%d) is %d, but %d soldiers are enough", level, least, n)
		}
		checkSumAndReach(t, near[:least-1], level, sumByNumber(near[:least-1], level), false)
		checkSumAndReach(t, near[:least], level, sumByNumber(near[:least], level), true)
		for range 1000 {
			few := shuffled(random, near[:least+random.Intn(10)])[:least-1]
			checkSumAndReach(t, few, level, sumByNumber(few, level), false)
		}
	}
	for i, s := range near {
		for k, other := range near[:i] {
			pair := []impl.Soldier{other, s}
			checkSumAndReach(t, pair, 1, sumByNumber(pair, 1), k == 0 && i <= 3)
			for _, third := range near[:min(k, 12)] {
				few := []impl.Soldier{third, other, s}
				checkSumAndReach(t, few, 2, sumByNumber(few, 2), false)
			}
		}
	}
}

// onBoard returns the position of an army on the greatest board whose hole 3 is the target.
func onBoard(list []impl.Soldier, level int) int {
	p := 0
	for _, s := range list {
		p += positionOf(3 + s.X + 7*(s.Y+level))
	}
	return p
}

// isReached reports whether a game of an army on the greatest board leads to the target.
func isReached(list []impl.Soldier, level int) bool {
	for p := range reachedFrom(linesByPlace(impl.Rectangle(7, 7)), onBoard(list, level)) {
		if p&positionOf(3) != 0 {
			return true
		}
	}
	return false
}

func TestArmiesThatDoReach(t *testing.T) {
	armies := [][]impl.Soldier{
		1: {soldier(0, 0), soldier(0, 1)},
		2: {soldier(0, 0), soldier(0, 1), soldier(1, 0), soldier(2, 0)},
		3: {soldier(-2, 0), soldier(-2, 1), soldier(-1, 0), soldier(-1, 1), soldier(0, 0), soldier(0, 1), soldier(1, 0), soldier(2, 0)},
	}
	for level := 1; level <= 3; level++ {
		if len(armies[level]) != impl.LeastArmy(level) || !isReached(armies[level], level) {
			t.Errorf("level %d is not reached by %v", level, armies[level])
		}
		checkSumAndReach(t, armies[level], level, gold(1, 0), true)
	}
}

func TestOnlyArmiesThatMayReachDo(t *testing.T) {
	random := rand.New(rand.NewSource(17))
	board := impl.Rectangle(7, 7)
	reached := 0
	for level := 1; level <= 5; level++ {
		places := slices.DeleteFunc(nearestSoldiers(), func(s impl.Soldier) bool { return max(s.X, -s.X) > 3 || s.Y+level > 6 })
		for range 400 {
			army := shuffled(random, places[:min(len(places), 14)])[:random.Intn(9)]
			may := impl.MayReach(army, level)
			if isReached(army, level) {
				reached++
				if !may {
					t.Errorf("%v reaches level %d", army, level)
				}
			}
			checkGoldSum(t, board, 3, onBoard(army, level), impl.ArmySum(army, level))
			checkHope(t, board, onBoard(army, level), 3, may)
		}
	}
	if reached < 100 {
		t.Errorf("only %d armies reach their targets", reached)
	}
}

func TestArmiesStayAsTheyAre(t *testing.T) {
	near := nearestSoldiers()
	list := slices.Clone(near)
	for n := range 61 {
		impl.ArmyOk(list[:n])
		impl.ArmySum(list[:n], 1)
		impl.MayReach(list[:n], 4)
	}
	if !slices.Equal(list, near) {
		t.Error("a list of soldiers has been changed")
	}
	for range 3 {
		checkArmy(t, near[:60])
	}
}
