package tests

import (
	"math/rand"
	"slices"
	"testing"

	"loop.example/g03302/impl"
)

// emptyHoles lists the holes of a board in which a list has no peg.
func emptyHoles(b impl.Board, pegs []int) []int {
	return slices.DeleteFunc(holesByPlace(b), func(k int) bool { return slices.Contains(pegs, k) })
}

// lastToFirst lists jumps from the last one to the first one.
func lastToFirst(jumps []impl.Line) []impl.Line {
	list := []impl.Line{}
	for _, l := range jumps {
		list = append([]impl.Line{l}, list...)
	}
	return list
}

func checkOther(t *testing.T, b impl.Board, p int, want int) {
	t.Helper()
	if got := impl.OtherOf(b, p); got != want {
		t.Errorf("OtherOf(%v, %d): got %d, want %d", b, p, got, want)
	}
}

// checkComplement checks two positions in both orders.
func checkComplement(t *testing.T, b impl.Board, p int, q int, want bool) {
	t.Helper()
	if impl.IsComplement(b, p, q) != want || impl.IsComplement(b, q, p) != want {
		t.Errorf("IsComplement(%v, %d, %d): got %v, and %v the other way round", b, p, q, impl.IsComplement(b, p, q), impl.IsComplement(b, q, p))
	}
}

func checkTurned(t *testing.T, jumps []impl.Line, want ...impl.Line) {
	t.Helper()
	if got := impl.TurnGame(jumps); !slices.Equal(got, want) {
		t.Errorf("TurnGame(%v): got %v, want %v", jumps, got, want)
	}
}

func checkCanTurn(t *testing.T, b impl.Board, p int, jumps []impl.Line, want bool) {
	t.Helper()
	if got := impl.CanTurn(b, p, jumps); got != want {
		t.Errorf("CanTurn(%v, %d, %v): got %v", b, p, jumps, got)
	}
}

// checkOtherOfPegs checks the complement of the position of a list of pegs.
func checkOtherOfPegs(t *testing.T, b impl.Board, pegs []int) {
	t.Helper()
	p, other := positionOf(pegs...), positionOf(emptyHoles(b, pegs)...)
	checkOther(t, b, p, other)
	checkOther(t, b, other, p)
	checkComplement(t, b, p, other, true)
	checkComplement(t, b, p, p, false)
	for _, k := range holesByPlace(b) {
		changed, _ := impl.SetPeg(b, other, k, !impl.HasPeg(b, other, k))
		checkComplement(t, b, p, changed, false)
	}
}

// checkTurnedGame checks a game with these positions, and that it leads backwards through their complements.
func checkTurnedGame(t *testing.T, b impl.Board, jumps []impl.Line, positions ...int) {
	t.Helper()
	others := []int{}
	for _, p := range positions {
		others = append([]int{b.Holes - p}, others...)
	}
	turned := lastToFirst(jumps)
	checkTurned(t, jumps, turned...)
	checkTurned(t, turned, jumps...)
	checkGame(t, b, impl.TurnGame(jumps), others...)
	checkCanTurn(t, b, positions[0], jumps, true)
	checkCanTurn(t, b, others[0], turned, true)
}

// checkNoOther checks that a position has no complement and no game, and is not the complement of another one.
func checkNoOther(t *testing.T, b impl.Board, p int) {
	t.Helper()
	checkOther(t, b, p, -1)
	for _, q := range []int{p, -1, 0, b.Holes, b.Holes &^ p, b.Holes ^ p, b.Holes - p, p & b.Holes, ^p} {
		checkComplement(t, b, p, q, false)
	}
	for _, jumps := range [][]impl.Line{nil, {}, twoJumps(), lastToFirst(twoJumps()), twoJumps()[:1], {{}}, make([]impl.Line, 61)} {
		checkCanTurn(t, b, p, jumps, false)
	}
}

func TestComplementsOfEveryBoard(t *testing.T) {
	eachBoard(func(b impl.Board) {
		eachPosition(b, func(pegs []int) { checkOtherOfPegs(t, b, pegs) })
	})
}

func TestComplementsOfAllPositions(t *testing.T) {
	for _, b := range []impl.Board{notch(), ring(), impl.Rectangle(4, 2), impl.Rectangle(1, 5)} {
		for p := range b.Holes + 1 {
			for q := range b.Holes + 1 {
				// Numbers without a common bit that add up to all holes have no bit outside them: both are positions.
				checkComplement(t, b, p, q, p+q == b.Holes && p&q == 0)
			}
		}
	}
}

func TestPegsAndEmptyHolesChangePlaces(t *testing.T) {
	eachBoard(func(b impl.Board) {
		eachPosition(b, func(pegs []int) {
			other := impl.OtherOf(b, positionOf(pegs...))
			if !impl.PositionOk(b, other) || impl.CountPegs(b, other) != impl.CountHoles(b)-len(pegs) {
				t.Errorf("%v, %v: OtherOf %d with %d pegs", b, pegs, other, impl.CountPegs(b, other))
			}
			for _, k := range holesByPlace(b) {
				if impl.HasPeg(b, other, k) == slices.Contains(pegs, k) {
					t.Errorf("%v, %v: OtherOf %d, HasPeg of %d %v", b, pegs, other, k, impl.HasPeg(b, other, k))
				}
			}
		})
	})
}

func TestComplementsOfFullAndEmptyBoards(t *testing.T) {
	eachBoard(func(b impl.Board) {
		checkOther(t, b, b.Holes, 0)
		checkOther(t, b, 0, b.Holes)
		checkComplement(t, b, b.Holes, 0, true)
		checkComplement(t, b, 0, 0, false)
		checkComplement(t, b, b.Holes, b.Holes, false)
		checkCanTurn(t, b, 0, nil, true)
		checkCanTurn(t, b, b.Holes, nil, true)
		for _, l := range linesByPlace(b) {
			checkCanTurn(t, b, 0, []impl.Line{l}, false)
			checkCanTurn(t, b, b.Holes, []impl.Line{l}, false)
		}
	})
	checkOther(t, impl.Rectangle(7, 7), 1<<49-1, 0)
	checkOther(t, impl.Rectangle(7, 7), 0, 1<<49-1)
}

func TestComplementOfAllPegsButOne(t *testing.T) {
	eachBoard(func(b impl.Board) {
		for _, k := range holesByPlace(b) {
			checkOther(t, b, impl.FullBut(b, k), impl.SinglePeg(b, k))
			checkOther(t, b, impl.SinglePeg(b, k), impl.FullBut(b, k))
		}
	})
	checkOther(t, impl.Rectangle(3, 3), 35, 476)
	checkOther(t, notch(), 5, 56)
	checkOther(t, impl.Rectangle(1, 1), 1, 0)
}

func TestTurnedGamesOfEveryBoard(t *testing.T) {
	eachGame(func(b impl.Board, jumps []impl.Line, positions []int) {
		checkTurnedGame(t, b, jumps, positions...)
	})
}

func TestEveryPartOfATurnedGame(t *testing.T) {
	jumps, positions := longGame(t)
	for from := range positions {
		for to := from; to < len(positions); to++ {
			checkTurnedGame(t, impl.Rectangle(7, 7), jumps[from:to], positions[from:to+1]...)
		}
	}
}

func TestTurnedEmptyGame(t *testing.T) {
	checkTurned(t, nil)
	checkTurned(t, []impl.Line{})
	eachBoard(func(b impl.Board) {
		eachPosition(b, func(pegs []int) {
			checkTurnedGame(t, b, nil, positionOf(pegs...))
			checkTurnedGame(t, b, []impl.Line{}, positionOf(pegs...))
		})
	})
}

func TestTurnedGamesOfOneAndTwoJumps(t *testing.T) {
	b := impl.Rectangle(3, 3)
	checkTurned(t, twoJumps(), line3(2, 5, 8), line3(0, 1, 2))
	checkTurned(t, twoJumps()[:1], line3(0, 1, 2))
	checkTurnedGame(t, b, twoJumps()[:1], 35, 36)
	checkTurnedGame(t, b, twoJumps(), 35, 36, 256)
	checkTurnedGame(t, impl.Rectangle(1, 4), []impl.Line{line3(0, 1, 2), line3(3, 2, 1)}, 11, 12, 2)
	checkTurnedGame(t, ring(), twoJumps(), 35, 36, 256)
}

func TestGamesThatCannotBeTurned(t *testing.T) {
	b := impl.Rectangle(3, 3)
	checkCanTurn(t, b, 35, lastToFirst(twoJumps()), false)
	checkCanTurn(t, b, 36, twoJumps(), false)
	checkCanTurn(t, b, 256, twoJumps(), false)
	checkCanTurn(t, b, 256, lastToFirst(twoJumps()), false)
	checkCanTurn(t, b, impl.OtherOf(b, 35), twoJumps(), false)
	checkCanTurn(t, b, impl.OtherOf(b, 256), twoJumps(), false)
	for _, l := range []impl.Line{line3(0, 1, 2), line3(8, 5, 2), line3(8, 9, 10), line3(0, 4, 8), {}} {
		checkCanTurn(t, b, 35, append(twoJumps(), l), false)
		checkCanTurn(t, b, 35, append([]impl.Line{line3(0, 1, 2), l}, twoJumps()[1]), false)
	}
	// The hole 4 is missing.
	checkCanTurn(t, ring(), positionOf(0, 1, 3, 5), []impl.Line{line3(0, 1, 2), line3(3, 4, 5)}, false)
	for _, n := range greatInts() {
		for _, l := range []impl.Line{line3(n, 5, 8), line3(2, n, 8), line3(2, 5, n), line3(n, n, n)} {
			checkCanTurn(t, b, 35, []impl.Line{line3(0, 1, 2), l}, false)
		}
	}
}

func TestEachJumpOfATurnedGameCounts(t *testing.T) {
	b := impl.Rectangle(7, 7)
	jumps, positions := longGame(t)
	for i := range jumps {
		for _, bad := range []impl.Line{impl.TurnLine(jumps[i]), line3(-1, 0, 1), {}} {
			broken := slices.Clone(jumps)
			broken[i] = bad
			checkCanTurn(t, b, positions[0], broken, false)
		}
		checkCanTurn(t, b, positions[0], slices.Insert(slices.Clone(jumps), i, jumps[i]), false)
	}
}

func TestTurnGameOfAnyJumps(t *testing.T) {
	random := rand.New(rand.NewSource(8))
	for count := range 130 {
		jumps := []impl.Line{}
		for range count {
			jumps = append(jumps, line3(random.Intn(9), random.Intn(9)-4, int(random.Uint64())))
		}
		checkTurned(t, jumps, lastToFirst(jumps)...)
		checkTurned(t, impl.TurnGame(jumps), jumps...)
	}
	checkTurned(t, make([]impl.Line, 3), make([]impl.Line, 3)...)
	for _, n := range greatInts() {
		checkTurned(t, []impl.Line{line3(n, 1, 2), {}, line3(3, 4, n)}, line3(3, 4, n), impl.Line{}, line3(n, 1, 2))
	}
}

func TestTurnedGamesOfMaxJumpsAndMore(t *testing.T) {
	b := impl.Rectangle(7, 7)
	long, positions := longGame(t)
	for _, count := range []int{59, 60, 61, 62, 120, 1000} {
		jumps := []impl.Line{}
		for len(jumps) < count {
			jumps = append(jumps, long...)
		}
		jumps = jumps[:count]
		checkTurned(t, jumps, lastToFirst(jumps)...)
		// A board has too few pegs for that many jumps: they fail with the limit as without it.
		checkCanTurn(t, b, positions[0], jumps, false)
		there := slices.Repeat([]impl.Line{line3(0, 1, 2), line3(2, 1, 0)}, count)
		checkCanTurn(t, impl.Rectangle(3, 1), 3, there[:count], false)
		checkCanTurn(t, b, 0, make([]impl.Line, count), false)
	}
}

func TestComplementsOfPositionsThatAreNotValid(t *testing.T) {
	for _, b := range []impl.Board{notch(), ring(), impl.Rectangle(3, 3), impl.Rectangle(1, 1), impl.Rectangle(7, 7), impl.CrossBoard()} {
		for _, bad := range invalidPositions(b) {
			checkNoOther(t, b, bad)
			// The pegs inside would allow the game.
			if outside := bad &^ b.Holes; outside != 0 {
				checkNoOther(t, b, outside|35&b.Holes)
			}
			for _, q := range []int{35 & b.Holes, 36 & b.Holes} {
				checkComplement(t, b, bad, q, false)
				checkComplement(t, b, bad, b.Holes-q, false)
			}
		}
	}
}

func TestComplementsOfInvalidBoards(t *testing.T) {
	boards := append(invalidBoards(),
		impl.Board{Width: 8, Height: 1, Holes: 255}, impl.Board{Width: 1, Height: 8, Holes: 255}, impl.Board{Width: 8, Height: 8, Holes: -1},
		impl.Board{Width: 3, Height: 0, Holes: 7}, impl.Board{Width: -3, Height: -3, Holes: 511}, impl.Board{Width: 3, Height: 3, Holes: 1023})
	for _, b := range boards {
		for _, p := range append(greatInts(), -1, 0, 1, 3, 35, 36, 256, b.Holes) {
			checkNoOther(t, b, p)
		}
	}
}

func TestTurningLeavesTheJumpsAsTheyAre(t *testing.T) {
	b := impl.Rectangle(3, 3)
	stored := append(twoJumps(), line3(9, 9, 9), line3(8, 8, 8))
	jumps := stored[:2]
	impl.CanTurn(b, 35, jumps)
	impl.CanTurn(b, 36, jumps)
	turned := impl.TurnGame(jumps)
	if len(turned) != 2 {
		t.Fatalf("TurnGame(%v): got %v", jumps, turned)
	}
	turned[0] = line3(7, 7, 7)
	turned[1] = line3(6, 6, 6)
	_ = append(turned[:1], line3(5, 5, 5))
	if want := append(twoJumps(), line3(9, 9, 9), line3(8, 8, 8)); !slices.Equal(stored, want) {
		t.Errorf("the jumps and what is behind them: got %v, want %v", stored, want)
	}
	jumps[0] = line3(4, 4, 4)
	if turned[1] == jumps[0] || turned[0] == jumps[0] {
		t.Errorf("TurnGame shares its result %v with its argument %v", turned, jumps)
	}
	checkTurned(t, twoJumps(), line3(2, 5, 8), line3(0, 1, 2))
	one := twoJumps()[:1]
	impl.TurnGame(one)[0] = impl.Line{}
	if one[0] != line3(0, 1, 2) {
		t.Errorf("TurnGame shares its result with a game of one jump, which is now %v", one)
	}
}
