package tests

import (
	"math/rand"
	"slices"
	"testing"

	"loop.example/g03302/impl"
)

// twoJumps are two jumps of one peg on the square of nine holes: they lead from 35 by 36 to 256.
func twoJumps() []impl.Line { return []impl.Line{line3(0, 1, 2), line3(2, 5, 8)} }

// randomGame plays jumps from a list of pegs, each chosen at random, until no peg can jump, and returns them and the positions.
func randomGame(random *rand.Rand, lines []impl.Line, pegs []int) ([]impl.Line, []int) {
	jumps, positions := []impl.Line{}, []int{positionOf(pegs...)}
	for {
		allowed := slices.DeleteFunc(slices.Clone(lines), func(l impl.Line) bool { return !pegsBefore(pegs, l) })
		if len(allowed) == 0 {
			return jumps, positions
		}
		l := allowed[random.Intn(len(allowed))]
		pegs = slices.DeleteFunc(slices.Clone(pegs), func(k int) bool { return k == l.From || k == l.Over })
		pegs = append(pegs, l.To)
		jumps, positions = append(jumps, l), append(positions, positionOf(pegs...))
	}
}

// eachGame calls check for a random game from each of the positions of eachPosition on each of the boards of eachBoard, with its positions.
func eachGame(check func(b impl.Board, jumps []impl.Line, positions []int)) {
	random := rand.New(rand.NewSource(6))
	eachBoard(func(b impl.Board) {
		lines := linesByPlace(b)
		eachPosition(b, func(pegs []int) {
			jumps, positions := randomGame(random, lines, pegs)
			check(b, jumps, positions)
		})
	})
}

// longGame returns a game of at least 35 jumps on the greatest board, and its positions.
func longGame(t *testing.T) ([]impl.Line, []int) {
	t.Helper()
	random := rand.New(rand.NewSource(60))
	b := impl.Rectangle(7, 7)
	lines := linesByPlace(b)
	pegs := slices.DeleteFunc(holesByPlace(b), func(k int) bool { return k == 24 })
	for range 200 {
		if jumps, positions := randomGame(random, lines, pegs); len(jumps) >= 35 {
			return jumps, positions
		}
	}
	t.Fatal("no long game was found")
	return nil, nil
}

func checkPlayAll(t *testing.T, b impl.Board, p int, jumps []impl.Line, want int, wantOk bool) {
	t.Helper()
	if got, ok := impl.PlayAll(b, p, jumps); got != want || ok != wantOk {
		t.Errorf("PlayAll(%v, %d, %v): got %d and %v, want %d and %v", b, p, jumps, got, ok, want, wantOk)
	}
}

func checkUndoAll(t *testing.T, b impl.Board, p int, jumps []impl.Line, want int, wantOk bool) {
	t.Helper()
	if got, ok := impl.UndoAll(b, p, jumps); got != want || ok != wantOk {
		t.Errorf("UndoAll(%v, %d, %v): got %d and %v, want %d and %v", b, p, jumps, got, ok, want, wantOk)
	}
}

func checkSolution(t *testing.T, b impl.Board, p int, goal int, jumps []impl.Line, want bool) {
	t.Helper()
	if got := impl.IsSolution(b, p, goal, jumps); got != want {
		t.Errorf("IsSolution(%v, %d, %d, %v): got %v", b, p, goal, jumps, got)
	}
}

func checkSweeps(t *testing.T, want int, jumps ...impl.Line) {
	t.Helper()
	if got := impl.CountSweeps(jumps); got != want {
		t.Errorf("CountSweeps(%v): got %d, want %d", jumps, got, want)
	}
}

// checkGame checks a game with these positions, forwards and backwards.
func checkGame(t *testing.T, b impl.Board, jumps []impl.Line, positions ...int) {
	t.Helper()
	start, end := positions[0], positions[len(positions)-1]
	checkPlayAll(t, b, start, jumps, end, true)
	checkUndoAll(t, b, end, jumps, start, true)
	if got := impl.PositionsOf(b, start, jumps); !slices.Equal(got, positions) {
		t.Errorf("PositionsOf(%v, %d, %v): got %v, want %v", b, start, jumps, got, positions)
	}
	for _, goal := range append([]int{0, b.Holes, -1}, positions...) {
		checkSolution(t, b, start, goal, jumps, goal == end)
	}
}

// checkNoGame checks that jumps cannot be played from a position.
func checkNoGame(t *testing.T, b impl.Board, p int, jumps []impl.Line) {
	t.Helper()
	checkPlayAll(t, b, p, jumps, p, false)
	if got := impl.PositionsOf(b, p, jumps); len(got) != 0 {
		t.Errorf("PositionsOf(%v, %d, %v): got %v", b, p, jumps, got)
	}
	for _, goal := range []int{p, 0, -1, b.Holes} {
		checkSolution(t, b, p, goal, jumps, false)
	}
}

// checkNoGameOrUndoing checks that jumps can neither be played from a position nor undone from it.
func checkNoGameOrUndoing(t *testing.T, b impl.Board, p int, jumps []impl.Line) {
	t.Helper()
	checkNoGame(t, b, p, jumps)
	checkUndoAll(t, b, p, jumps, p, false)
}

func TestGameLimit(t *testing.T) {
	if impl.MaxJumps != 60 {
		t.Errorf("MaxJumps is %d, want 60", impl.MaxJumps)
	}
}

func TestGamesOfEveryBoard(t *testing.T) {
	eachGame(func(b impl.Board, jumps []impl.Line, positions []int) {
		checkGame(t, b, jumps, positions...)
	})
}

func TestAGameLosesOnePegPerJump(t *testing.T) {
	eachGame(func(b impl.Board, jumps []impl.Line, positions []int) {
		pegs := impl.CountPegs(b, positions[0])
		for n := range len(jumps) + 1 {
			end, ok := impl.PlayAll(b, positions[0], jumps[:n])
			if !ok || impl.CountPegs(b, end) != pegs-n {
				t.Errorf("%v, %d: %v and %d pegs after %v, %d before", b, positions[0], ok, impl.CountPegs(b, end), jumps[:n], pegs)
			}
			for i, p := range impl.PositionsOf(b, positions[0], jumps[:n]) {
				if impl.CountPegs(b, p) != pegs-i {
					t.Errorf("%v, %d: %d pegs after %v, %d before", b, positions[0], impl.CountPegs(b, p), jumps[:i], pegs)
				}
			}
		}
	})
}

func TestEveryPartOfAGame(t *testing.T) {
	jumps, positions := longGame(t)
	for from := range positions {
		for to := from; to < len(positions); to++ {
			checkGame(t, impl.Rectangle(7, 7), jumps[from:to], positions[from:to+1]...)
		}
	}
}

func TestUndoneJumpsAreAGame(t *testing.T) {
	random := rand.New(rand.NewSource(66))
	for _, b := range []impl.Board{impl.Rectangle(3, 3), impl.Rectangle(5, 4), impl.CrossBoard(), impl.Rectangle(7, 7)} {
		for _, k := range holesByPlace(b) {
			end := impl.SinglePeg(b, k)
			jumps, positions := []impl.Line{}, []int{end}
			for len(impl.UndosOf(b, positions[0])) > 0 {
				undos := impl.UndosOf(b, positions[0])
				l := undos[random.Intn(len(undos))]
				before, _ := impl.UndoJump(b, positions[0], l)
				jumps, positions = slices.Insert(jumps, 0, l), slices.Insert(positions, 0, before)
			}
			checkGame(t, b, jumps, positions...)
		}
	}
}

func TestEmptyGame(t *testing.T) {
	eachBoard(func(b impl.Board) {
		eachPosition(b, func(pegs []int) {
			checkGame(t, b, nil, positionOf(pegs...))
			checkGame(t, b, []impl.Line{}, positionOf(pegs...))
		})
	})
	checkSolution(t, impl.Rectangle(3, 3), 35, 35, nil, true)
	checkSolution(t, impl.Rectangle(3, 3), 35, 36, nil, false)
	checkSweeps(t, 0)
}

func TestGamesOfOneAndTwoJumps(t *testing.T) {
	b := impl.Rectangle(3, 3)
	checkGame(t, b, twoJumps()[:1], 35, 36)
	checkGame(t, b, twoJumps()[1:], 36, 256)
	checkGame(t, b, twoJumps(), 35, 36, 256)
	checkGame(t, b, []impl.Line{line3(0, 1, 2), line3(6, 7, 8)}, 1+2+64+128, 4+64+128, 4+256)
	checkGame(t, impl.Rectangle(1, 4), []impl.Line{line3(0, 1, 2), line3(3, 2, 1)}, 11, 12, 2)
}

func TestGameWhoseLastJumpFails(t *testing.T) {
	b := impl.Rectangle(3, 3)
	for _, last := range []impl.Line{line3(0, 1, 2), line3(2, 5, 8), line3(8, 5, 2), line3(8, 7, 6), line3(8, 9, 10), line3(0, 4, 8), {}} {
		checkNoGameOrUndoing(t, b, 35, append(twoJumps(), last))
	}
	checkNoGame(t, b, 35, []impl.Line{line3(0, 1, 2), line3(0, 1, 2)})
	checkNoGame(t, b, 36, []impl.Line{line3(2, 5, 8), line3(0, 1, 2)})
	long, positions := longGame(t)
	for n := range long {
		checkNoGame(t, impl.Rectangle(7, 7), positions[0], append(slices.Clone(long[:n+1]), long[n]))
	}
}

func TestUndoingThatFailsAtTheFirstJump(t *testing.T) {
	b := impl.Rectangle(3, 3)
	for _, first := range []impl.Line{line3(0, 1, 2), line3(2, 5, 8), line3(8, 5, 2), line3(0, 3, 6), line3(-2, -1, 0), line3(1, 0, 2), {}} {
		checkUndoAll(t, b, 256, append([]impl.Line{first}, twoJumps()...), 256, false)
	}
	long, positions := longGame(t)
	for n := range long {
		checkUndoAll(t, impl.Rectangle(7, 7), positions[len(long)], append([]impl.Line{long[n]}, long[n:]...), positions[len(long)], false)
	}
}

func TestEachJumpOfAGameCounts(t *testing.T) {
	b := impl.Rectangle(7, 7)
	jumps, positions := longGame(t)
	start, end := positions[0], positions[len(jumps)]
	for i := range jumps {
		for _, bad := range []impl.Line{impl.TurnLine(jumps[i]), line3(jumps[i].From, jumps[i].To, jumps[i].Over), line3(-1, 0, 1), {}} {
			broken := slices.Clone(jumps)
			broken[i] = bad
			checkNoGame(t, b, start, broken)
			checkUndoAll(t, b, end, broken, end, false)
		}
		twice := slices.Insert(slices.Clone(jumps), i, jumps[i])
		checkNoGame(t, b, start, twice)
		checkUndoAll(t, b, end, twice, end, false)
	}
}

func TestOrderOfTheJumps(t *testing.T) {
	b := impl.Rectangle(3, 3)
	turned := []impl.Line{line3(2, 5, 8), line3(0, 1, 2)}
	checkNoGame(t, b, 35, turned)
	checkUndoAll(t, b, 256, turned, 256, false)
	checkNoGame(t, b, 256, twoJumps())
	checkUndoAll(t, b, 35, twoJumps(), 35, false)
	checkUndoAll(t, b, 36, twoJumps(), 36, false)
	checkUndoAll(t, b, 36, twoJumps()[:1], 35, true)
	checkSolution(t, b, 35, 256, twoJumps(), true)
	checkSolution(t, b, 35, 36, twoJumps(), false)
	checkSolution(t, b, 36, 256, twoJumps(), false)
	checkSolution(t, b, 256, 35, turned, false)
	checkSolution(t, b, 35, 35, twoJumps(), false)
}

func TestGamesOfMaxJumpsAndMore(t *testing.T) {
	// A board has too few pegs for that many jumps: they fail with the limit as without it.
	b := impl.Rectangle(7, 7)
	long, positions := longGame(t)
	start, end := positions[0], positions[len(long)]
	for _, count := range []int{49, 59, 60, 61, 62, 120, 1000} {
		jumps := []impl.Line{}
		for len(jumps) < count {
			jumps = append(jumps, long...)
		}
		checkNoGame(t, b, start, jumps[:count])
		checkUndoAll(t, b, end, jumps[len(jumps)-count:], end, false)
		checkNoGameOrUndoing(t, impl.Rectangle(3, 1), 3, slices.Repeat([]impl.Line{line3(0, 1, 2)}, count))
		checkNoGameOrUndoing(t, impl.Rectangle(3, 1), 4, slices.Repeat([]impl.Line{line3(0, 1, 2)}, count))
		// The jump and the turned one change places without end if the pegs are not looked at.
		there := slices.Repeat([]impl.Line{line3(0, 1, 2), line3(2, 1, 0)}, count)
		checkNoGameOrUndoing(t, impl.Rectangle(3, 1), 3, there[:count])
		checkNoGameOrUndoing(t, impl.Rectangle(3, 1), 4, there[:count])
		checkNoGameOrUndoing(t, b, 0, make([]impl.Line, count))
	}
}

func TestGamesFromPositionsThatAreNotValid(t *testing.T) {
	games := [][]impl.Line{nil, {}, twoJumps(), twoJumps()[:1], twoJumps()[1:], {{}}, make([]impl.Line, 61)}
	for _, b := range []impl.Board{notch(), ring(), impl.Rectangle(3, 3), impl.Rectangle(7, 7), impl.CrossBoard()} {
		for _, bad := range invalidPositions(b) {
			for _, jumps := range games {
				checkNoGameOrUndoing(t, b, bad, jumps)
				// What is outside the board stays, and the pegs inside would allow the game or its undoing.
				if outside := bad &^ b.Holes; outside != 0 {
					checkNoGameOrUndoing(t, b, outside|35, jumps)
					checkNoGameOrUndoing(t, b, outside|36, jumps)
					checkNoGameOrUndoing(t, b, outside|256, jumps)
				}
			}
		}
	}
}

func TestGamesOfInvalidBoards(t *testing.T) {
	boards := append(invalidBoards(),
		impl.Board{Width: 8, Height: 1, Holes: 255}, impl.Board{Width: 1, Height: 8, Holes: 255}, impl.Board{Width: 8, Height: 8, Holes: -1},
		impl.Board{Width: 3, Height: 0, Holes: 7}, impl.Board{Width: -3, Height: -3, Holes: 511}, impl.Board{Width: 3, Height: 3, Holes: 1023})
	for _, b := range boards {
		for _, p := range append(greatInts(), -1, 0, 1, 3, 4, 35, 36, 256, b.Holes) {
			for _, jumps := range [][]impl.Line{nil, {}, twoJumps(), {line3(0, 1, 2)}, {line3(0, 8, 16)}, {{}}, make([]impl.Line, 61)} {
				checkNoGameOrUndoing(t, b, p, jumps)
			}
		}
	}
}

func TestGamesWithLinesThatAreNotOfTheBoard(t *testing.T) {
	// The hole 4 is missing.
	checkNoGameOrUndoing(t, ring(), positionOf(0, 1, 3, 5), []impl.Line{line3(0, 1, 2), line3(3, 4, 5)})
	checkNoGameOrUndoing(t, ring(), positionOf(2, 5), []impl.Line{line3(0, 1, 2), line3(3, 4, 5)})
	checkGame(t, ring(), twoJumps(), 35, 36, 256)
	// The holes 2, 3 and 4 are in two rows.
	checkNoGameOrUndoing(t, impl.Rectangle(4, 2), positionOf(2, 3), []impl.Line{line3(2, 3, 4)})
	checkNoGameOrUndoing(t, impl.Rectangle(4, 2), positionOf(4), []impl.Line{line3(2, 3, 4)})
	for _, n := range greatInts() {
		for _, l := range []impl.Line{line3(n, 5, 8), line3(2, n, 8), line3(2, 5, n), line3(n, n, n)} {
			checkNoGame(t, impl.Rectangle(3, 3), 35, []impl.Line{line3(0, 1, 2), l})
			checkUndoAll(t, impl.Rectangle(3, 3), 256, []impl.Line{line3(0, 1, 2), l}, 256, false)
		}
	}
}

func TestCountSweeps(t *testing.T) {
	checkSweeps(t, 1, line3(0, 1, 2))
	checkSweeps(t, 1, twoJumps()...)
	checkSweeps(t, 2, line3(2, 5, 8), line3(0, 1, 2))
	checkSweeps(t, 1, line3(0, 1, 2), line3(2, 5, 8), line3(8, 7, 6), line3(6, 3, 0))
	checkSweeps(t, 3, line3(0, 1, 2), line3(3, 4, 5), line3(6, 7, 8))
	checkSweeps(t, 2, line3(0, 1, 2), line3(2, 5, 8), line3(6, 3, 0))
	checkSweeps(t, 2, line3(6, 3, 0), line3(0, 1, 2), line3(24, 17, 10), line3(10, 9, 8))
	// Only the jump just before counts, with its To and not its From or its Over.
	checkSweeps(t, 3, line3(0, 1, 2), line3(6, 7, 8), line3(2, 5, 8))
	checkSweeps(t, 2, line3(0, 1, 2), line3(0, 3, 6))
	checkSweeps(t, 2, line3(0, 1, 2), line3(1, 4, 7))
	checkSweeps(t, 2, line3(0, 1, 2), line3(8, 5, 2))
	checkSweeps(t, 2, line3(0, 1, 2), line3(5, 2, 8))
	checkSweeps(t, 1, line3(0, 1, 2), line3(2, 1, 0))
}

func TestCountSweepsOfAnyJumps(t *testing.T) {
	checkSweeps(t, 1, impl.Line{})
	checkSweeps(t, 1, make([]impl.Line, 3)...)
	checkSweeps(t, 2, impl.Line{}, line3(1, 2, 3))
	for _, count := range []int{60, 61, 500} {
		checkSweeps(t, count, slices.Repeat([]impl.Line{line3(0, 1, 2)}, count)...)
		checkSweeps(t, 1, slices.Repeat([]impl.Line{line3(4, 0, 4)}, count)...)
		checkSweeps(t, 1, slices.Repeat([]impl.Line{line3(0, 1, 2), line3(2, 1, 0)}, count)...)
	}
	for _, n := range append(greatInts(), -1, -2) {
		checkSweeps(t, 1, line3(0, 1, n), line3(n, 1, 0))
		checkSweeps(t, 2, line3(n, 1, 0), line3(n, 1, 0))
		checkSweeps(t, 2, line3(n, n, n), line3(1, n, n))
	}
}

func TestSweepsOfRandomJumps(t *testing.T) {
	random := rand.New(rand.NewSource(606))
	for range 500 {
		jumps, want := []impl.Line{}, 0
		from := -1
		for range random.Intn(70) {
			next := from
			if len(jumps) == 0 || random.Intn(2) == 0 {
				next = from + 1 + random.Intn(5)
				want++
			}
			jumps = append(jumps, line3(next, random.Intn(9), next+1))
			from = next + 1
		}
		checkSweeps(t, want, jumps...)
	}
}

func TestGamesLeaveTheirJumpsAsTheyAre(t *testing.T) {
	b := impl.Rectangle(3, 3)
	stored := append(twoJumps(), line3(9, 9, 9), line3(8, 8, 8))
	jumps := stored[:2]
	impl.PlayAll(b, 35, jumps)
	impl.PositionsOf(b, 35, jumps)
	impl.IsSolution(b, 35, 256, jumps)
	impl.CountSweeps(jumps)
	impl.UndoAll(b, 256, jumps)
	impl.UndoAll(b, 35, jumps)
	if want := append(twoJumps(), line3(9, 9, 9), line3(8, 8, 8)); !slices.Equal(stored, want) {
		t.Errorf("the jumps and what is behind them: got %v, want %v", stored, want)
	}
}

func TestPositionsOfResultsAreNew(t *testing.T) {
	b := impl.Rectangle(3, 3)
	first := impl.PositionsOf(b, 35, twoJumps())
	if len(first) != 3 {
		t.Fatalf("PositionsOf(%v, 35, %v): got %v", b, twoJumps(), first)
	}
	first[0] = -9
	_ = append(first[:1], -9)
	checkGame(t, b, twoJumps(), 35, 36, 256)
}
