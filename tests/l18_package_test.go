package tests

import (
	"math"
	"math/rand"
	"slices"
	"testing"

	"loop.example/g03302/impl"
)

// rowJumps are the jumps that remove the pegs 3, 4 and 5 of the square of nine holes with the help of the hole 0 above and the peg 6 below.
func rowJumps() []impl.Line { return []impl.Line{line3(6, 3, 0), line3(5, 4, 3), line3(0, 3, 6)} }

// rowPackage is the package of rowJumps.
func rowPackage() impl.Package {
	return impl.Package{Need: positionOf(0, 3, 4, 5, 6), Gone: positionOf(3, 4, 5), Jumps: rowJumps()}
}

// playPegs plays jumps on lines of a board from a list of pegs, and returns the pegs that are left, in ascending order, and whether all jumps were possible.
func playPegs(lines []impl.Line, pegs []int, jumps []impl.Line) ([]int, bool) {
	left := slices.Clone(pegs)
	for _, l := range jumps {
		if !slices.Contains(lines, l) || !pegsBefore(left, l) {
			return nil, false
		}
		left = slices.DeleteFunc(left, func(k int) bool { return k == l.From || k == l.Over })
		left = append(left, l.To)
	}
	slices.Sort(left)
	return left, true
}

// packageByPlaying makes the package of a game from a list of pegs hole by hole.
func packageByPlaying(lines []impl.Line, pegs []int, jumps []impl.Line) (impl.Package, bool) {
	left, ok := playPegs(lines, pegs, jumps)
	if !ok || len(jumps) == 0 {
		return impl.Package{}, false
	}
	for _, k := range left {
		if !slices.Contains(pegs, k) {
			return impl.Package{}, false
		}
	}
	gone, need := slices.Clone(pegs), []int{}
	gone = slices.DeleteFunc(gone, func(k int) bool { return slices.Contains(left, k) })
	for _, l := range jumps {
		need = append(need, l.From, l.Over, l.To)
	}
	slices.Sort(need)
	return impl.Package{Need: positionOf(slices.Compact(need)...), Gone: positionOf(gone...), Jumps: jumps}, true
}

// rowByPlace makes the package of three pegs in a row, and the position before it, place by place.
func rowByPlace(b impl.Board, k int, way int) (impl.Package, int, bool) {
	steps := [][2]int{{1, 0}, {0, 1}, {-1, 0}, {0, -1}}
	holes := holesByPlace(b)
	if way < 0 || way > 3 || !slices.Contains(holes, k) {
		return impl.Package{}, 0, false
	}
	at := func(way int, distance int) (int, bool) {
		x, y := k%b.Width+distance*steps[way][0], k/b.Width+distance*steps[way][1]
		return y*b.Width + x, x >= 0 && x < b.Width && y >= 0 && y < b.Height && slices.Contains(holes, y*b.Width+x)
	}
	m, okM := at(way, 1)
	n, okN := at(way, 2)
	u, okU := at((way+1)%4, 1)
	v, okV := at((way+1)%4, -1)
	if !okM || !okN || !okU || !okV {
		return impl.Package{}, 0, false
	}
	jumps := []impl.Line{line3(u, k, v), line3(n, m, k), line3(v, k, u)}
	return impl.Package{Need: positionOf(k, m, n, u, v), Gone: positionOf(k, m, n), Jumps: jumps}, positionOf(k, m, n, u), true
}

// eachGameFrom calls check for all games of at least one jump from a list of pegs.
func eachGameFrom(lines []impl.Line, pegs []int, game []impl.Line, check func(jumps []impl.Line)) {
	for _, l := range lines {
		if pegsBefore(pegs, l) {
			jumps := append(slices.Clone(game), l)
			check(jumps)
			left := slices.DeleteFunc(slices.Clone(pegs), func(k int) bool { return k == l.From || k == l.Over })
			eachGameFrom(lines, append(left, l.To), jumps, check)
		}
	}
}

func samePackage(a impl.Package, c impl.Package) bool {
	return a.Need == c.Need && a.Gone == c.Gone && slices.Equal(a.Jumps, c.Jumps)
}

// checkPackage checks the package of a game from a position, and that the game is as before.
func checkPackage(t *testing.T, b impl.Board, p int, jumps []impl.Line, want impl.Package, wantOk bool) {
	t.Helper()
	old := slices.Clone(jumps)
	if got := impl.IsPackage(b, p, jumps); got != wantOk {
		t.Errorf("IsPackage(%v, %d, %v): got %v", b, p, old, got)
	}
	if got, ok := impl.PackageOf(b, p, jumps); !samePackage(got, want) || ok != wantOk {
		t.Errorf("PackageOf(%v, %d, %v): got %v and %v, want %v and %v", b, p, old, got, ok, want, wantOk)
	}
	if !slices.Equal(jumps, old) {
		t.Errorf("%v, %d: the jumps %v are changed to %v", b, p, old, jumps)
	}
}

func checkNoPackage(t *testing.T, b impl.Board, p int, jumps ...impl.Line) {
	t.Helper()
	checkPackage(t, b, p, jumps, impl.Package{}, false)
}

func checkApplies(t *testing.T, b impl.Board, p int, x impl.Package, before int, want bool) {
	t.Helper()
	if got := impl.Applies(b, p, x, before); got != want {
		t.Errorf("Applies(%v, %d, %v, %d): got %v", b, p, x, before, got)
	}
}

func checkUse(t *testing.T, b impl.Board, p int, x impl.Package, before int, want int, wantOk bool) {
	t.Helper()
	if got, ok := impl.UsePackage(b, p, x, before); got != want || ok != wantOk {
		t.Errorf("UsePackage(%v, %d, %v, %d): got %d and %v, want %d and %v", b, p, x, before, got, ok, want, wantOk)
	}
}

// checkNoUse checks that a package neither applies nor can be used.
func checkNoUse(t *testing.T, b impl.Board, p int, x impl.Package, before int) {
	t.Helper()
	checkApplies(t, b, p, x, before, false)
	checkUse(t, b, p, x, before, p, false)
}

func checkRow(t *testing.T, b impl.Board, k int, way int, want impl.Package, wantBefore int, wantOk bool) {
	t.Helper()
	got, before, ok := impl.RowOfThree(b, k, way)
	if !samePackage(got, want) || before != wantBefore || ok != wantOk {
		t.Errorf("RowOfThree(%v, %d, %d): got %v, %d and %v, want %v, %d and %v", b, k, way, got, before, ok, want, wantBefore, wantOk)
	}
}

func checkNoRow(t *testing.T, b impl.Board, k int, way int) {
	t.Helper()
	checkRow(t, b, k, way, impl.Package{}, 0, false)
}

// checkEverywhere checks where a package applies, among the positions of a list, and what it leaves there; it returns how often it does.
func checkEverywhere(t *testing.T, b impl.Board, lines []impl.Line, x impl.Package, before []int, positions [][]int) int {
	t.Helper()
	number := 0
	for _, pegs := range positions {
		same := true
		for _, k := range holesByPlace(b) {
			needed := slices.ContainsFunc(x.Jumps, func(l impl.Line) bool { return k == l.From || k == l.Over || k == l.To })
			same = same && (!needed || slices.Contains(pegs, k) == slices.Contains(before, k))
		}
		p := positionOf(pegs...)
		checkApplies(t, b, p, x, positionOf(before...), same)
		if !same {
			checkUse(t, b, p, x, positionOf(before...), p, false)
			continue
		}
		left, ok := playPegs(lines, pegs, x.Jumps)
		if !ok || len(left) != len(pegs)-len(x.Jumps) {
			t.Errorf("%v: the package %v applies to %v, but cannot be played", b, x, pegs)
		}
		checkUse(t, b, p, x, positionOf(before...), positionOf(left...), true)
		checkPlayAll(t, b, p, x.Jumps, positionOf(left...), true)
		number++
	}
	return number
}

// allPositions lists the pegs of all positions of a board.
func allPositions(b impl.Board) [][]int {
	positions := [][]int{{}}
	for _, k := range holesByPlace(b) {
		for _, pegs := range positions {
			positions = append(positions, append(slices.Clone(pegs), k))
		}
	}
	return positions
}

func TestPackagesByHand(t *testing.T) {
	square := impl.Rectangle(3, 3)
	checkPackage(t, square, positionOf(3, 4, 5, 6), rowJumps(), rowPackage(), true)
	// Other pegs are neither gone nor needed.
	checkPackage(t, square, positionOf(1, 2, 3, 4, 5, 6, 7, 8), rowJumps(), rowPackage(), true)
	// A peg that goes around the ring removes four others.
	around := []impl.Line{line3(0, 1, 2), line3(2, 5, 8), line3(8, 7, 6), line3(6, 3, 0)}
	checkPackage(t, ring(), positionOf(0, 1, 3, 5, 7), around, impl.Package{Need: positionOf(0, 1, 2, 3, 5, 6, 7, 8), Gone: positionOf(1, 3, 5, 7), Jumps: around}, true)
	// The package is used where other pegs are, too.
	checkUse(t, square, 511-1, rowPackage(), 120, positionOf(1, 2, 6, 7, 8), true)
	checkUse(t, square, 120, rowPackage(), 120, 64, true)
}

func TestGamesThatLeaveAPegWhereThereWasNone(t *testing.T) {
	square := impl.Rectangle(3, 3)
	checkNoPackage(t, square, 35, line3(0, 1, 2))
	checkNoPackage(t, square, 35, twoJumps()...)
	// The first two jumps of a package leave the pegs elsewhere.
	checkNoPackage(t, square, 120, rowJumps()[:1]...)
	checkNoPackage(t, square, 120, rowJumps()[:2]...)
	checkNoPackage(t, square, 120+128+256, append(rowJumps(), line3(6, 7, 8))...)
	checkNoPackage(t, square, 120+2+4, append(rowJumps(), line3(2, 1, 0))...)
	checkPackage(t, square, 120+2+4, rowJumps(), rowPackage(), true)
}

func TestGamesThatAreNoPackages(t *testing.T) {
	square := impl.Rectangle(3, 3)
	checkNoPackage(t, square, 120)
	checkNoPackage(t, square, 0)
	checkNoPackage(t, square, 511)
	checkPackage(t, square, 120, []impl.Line{}, impl.Package{}, false)
	// The last jump fails after a package.
	for _, last := range []impl.Line{line3(6, 3, 0), line3(0, 3, 6), line3(5, 4, 3), line3(6, 7, 8), line3(6, 9, 12), {}} {
		checkNoPackage(t, square, 120, append(rowJumps(), last)...)
	}
	// The second peg of the row is missing, or there is one above it.
	checkNoPackage(t, square, 120-16, rowJumps()...)
	checkNoPackage(t, square, 120+1, rowJumps()...)
	turned := rowJumps()
	slices.Reverse(turned)
	checkNoPackage(t, square, 120, turned...)
	// The hole in the middle is missing.
	checkNoPackage(t, ring(), 120-16, rowJumps()...)
}

func TestPackagesOfAllGames(t *testing.T) {
	packages, others, uses := 0, 0, 0
	for _, b := range []impl.Board{impl.Rectangle(3, 3), ring(), notch(), impl.Rectangle(4, 2), impl.Rectangle(2, 4), impl.Rectangle(7, 1), impl.Rectangle(1, 7)} {
		lines := linesByPlace(b)
		positions := allPositions(b)
		for _, pegs := range positions {
			eachGameFrom(lines, pegs, nil, func(jumps []impl.Line) {
				x, ok := packageByPlaying(lines, pegs, jumps)
				checkPackage(t, b, positionOf(pegs...), jumps, x, ok)
				if !ok {
					others++
					return
				}
				packages++
				uses += checkEverywhere(t, b, lines, x, pegs, positions)
			})
		}
	}
	if packages < 700 || others < 4000 || uses < 5000 {
		t.Errorf("only %d packages, %d other games and %d uses", packages, others, uses)
	}
}

func TestPackagesOnLargerBoards(t *testing.T) {
	random := rand.New(rand.NewSource(180))
	packages := 0
	for _, b := range []impl.Board{impl.Rectangle(4, 4), impl.Rectangle(5, 3), impl.CrossBoard(), sevenBySix(), impl.Rectangle(7, 7)} {
		lines := linesByPlace(b)
		holes := holesByPlace(b)
		for range 300 {
			pegs := slices.DeleteFunc(slices.Clone(holes), func(int) bool { return random.Intn(3) == 0 })
			jumps, positions := randomGame(random, lines, pegs)
			for from := range positions {
				start := slices.DeleteFunc(slices.Clone(holes), func(k int) bool { return positions[from]&positionOf(k) == 0 })
				for to := from; to < len(positions); to++ {
					x, ok := packageByPlaying(lines, start, jumps[from:to])
					if ok || random.Intn(20) == 0 {
						checkPackage(t, b, positions[from], jumps[from:to], x, ok)
					}
					if !ok {
						continue
					}
					packages++
					free := slices.DeleteFunc(slices.Clone(holes), func(k int) bool { return x.Need&positionOf(k) != 0 })
					needed := slices.DeleteFunc(slices.Clone(start), func(k int) bool { return x.Need&positionOf(k) == 0 })
					others := [][]int{start, append(slices.Clone(needed), free...), needed, free, holes, {}}
					for range 3 {
						others = append(others, append(slices.Clone(needed), somePegs(random, free, len(free))...))
					}
					if checkEverywhere(t, b, lines, x, start, others) < 6 {
						t.Errorf("%v: the package %v of %v applies too seldom", b, x, start)
					}
				}
			}
		}
	}
	if packages < 100 {
		t.Errorf("only %d packages", packages)
	}
}

func TestRowsByHand(t *testing.T) {
	square := impl.Rectangle(3, 3)
	checkRow(t, square, 3, 0, rowPackage(), 120, true)
	down := []impl.Line{line3(0, 1, 2), line3(7, 4, 1), line3(2, 1, 0)}
	checkRow(t, square, 1, 1, impl.Package{Need: positionOf(0, 1, 2, 4, 7), Gone: positionOf(1, 4, 7), Jumps: down}, positionOf(0, 1, 4, 7), true)
	left := []impl.Line{line3(2, 5, 8), line3(3, 4, 5), line3(8, 5, 2)}
	checkRow(t, square, 5, 2, impl.Package{Need: positionOf(2, 3, 4, 5, 8), Gone: positionOf(3, 4, 5), Jumps: left}, positionOf(2, 3, 4, 5), true)
	up := []impl.Line{line3(8, 7, 6), line3(1, 4, 7), line3(6, 7, 8)}
	checkRow(t, square, 7, 3, impl.Package{Need: positionOf(1, 4, 6, 7, 8), Gone: positionOf(1, 4, 7), Jumps: up}, positionOf(1, 4, 7, 8), true)
}

func TestRowsAtTheBorder(t *testing.T) {
	square := impl.Rectangle(3, 3)
	for k := range 9 {
		for way := range 4 {
			if [2]int{k, way} != [2]int{3, 0} && [2]int{k, way} != [2]int{1, 1} && [2]int{k, way} != [2]int{5, 2} && [2]int{k, way} != [2]int{7, 3} {
				checkNoRow(t, square, k, way)
			}
		}
	}
	// A row that goes on in the next row of the grid is none, nor is one with a hole beside it there.
	four := impl.Rectangle(4, 3)
	checkNoRow(t, four, 6, 0)
	checkNoRow(t, four, 5, 2)
	checkNoRow(t, impl.Rectangle(3, 4), 3, 1)
	checkNoRow(t, impl.Rectangle(3, 4), 5, 1)
	checkNoRow(t, impl.Rectangle(3, 4), 6, 3)
	checkNoRow(t, impl.Rectangle(3, 4), 8, 3)
}

func TestRowsWithAMissingHole(t *testing.T) {
	// Exactly one of the five holes is missing, and then all others are.
	for way, k := range []int{3, 1, 5, 7} {
		x, before, _ := rowByPlace(impl.Rectangle(3, 3), k, way)
		for missing := range 9 {
			b := impl.Board{Width: 3, Height: 3, Holes: 511 - positionOf(missing)}
			if x.Need&positionOf(missing) == 0 {
				checkRow(t, b, k, way, x, before, true)
			} else {
				checkNoRow(t, b, k, way)
			}
		}
		checkRow(t, impl.Board{Width: 3, Height: 3, Holes: x.Need}, k, way, x, before, true)
	}
}

func TestRowsOfEveryBoard(t *testing.T) {
	rows := 0
	eachBoard(func(b impl.Board) {
		for k := range b.Width * b.Height {
			for way := range 4 {
				x, before, ok := rowByPlace(b, k, way)
				checkRow(t, b, k, way, x, before, ok)
				if !ok {
					continue
				}
				rows++
				checkPackage(t, b, before, x.Jumps, x, true)
				pegs := slices.DeleteFunc(holesByPlace(b), func(k int) bool { return before&positionOf(k) == 0 })
				full := slices.DeleteFunc(holesByPlace(b), func(k int) bool { return k == x.Jumps[0].To })
				checkEverywhere(t, b, linesByPlace(b), x, pegs, [][]int{pegs, full, holesByPlace(b), {}, pegs[1:]})
			}
			for _, way := range append(greatInts(), -1, -2, -4, 4, 5, 8) {
				checkNoRow(t, b, k, way)
			}
		}
	})
	if rows < 2000 {
		t.Errorf("only %d rows", rows)
	}
}

func TestRowsOutsideTheGrid(t *testing.T) {
	for _, b := range []impl.Board{impl.Rectangle(3, 3), impl.Rectangle(5, 4), impl.CrossBoard(), impl.Rectangle(7, 7), {Width: 7, Height: 7, Holes: 1 << 48}} {
		for _, k := range outsideTheGrid(b) {
			for way := -1; way <= 4; way++ {
				checkNoRow(t, b, k, way)
			}
			for _, way := range greatInts() {
				checkNoRow(t, b, k, way)
			}
		}
	}
}

func TestRowsOfNarrowBoards(t *testing.T) {
	for side := 1; side <= 7; side++ {
		for narrow := 1; narrow <= 3; narrow++ {
			wide, high := 0, 0
			for k := range side * narrow {
				for way := range 4 {
					for i, b := range []impl.Board{impl.Rectangle(side, narrow), impl.Rectangle(narrow, side)} {
						x, before, ok := rowByPlace(b, k, way)
						checkRow(t, b, k, way, x, before, ok)
						if ok && i == 0 {
							wide++
						} else if ok {
							high++
						}
					}
				}
			}
			// Both sides need three holes: of one or two rows, there are none.
			if want := narrow == 3 && side >= 3; (wide > 0) != want || wide != high {
				t.Errorf("%d times %d: %d rows, and %d when it is turned", side, narrow, wide, high)
			}
		}
	}
}

func TestAppliesByTheHolesThatAreNeeded(t *testing.T) {
	square := impl.Rectangle(3, 3)
	x := rowPackage()
	for p := range 512 {
		checkApplies(t, square, p, x, 120, p&121 == 120)
		checkApplies(t, square, 120, x, p, p&121 == 120)
		checkApplies(t, square, p, impl.Package{Need: 121}, 120, p&121 == 120)
		// Nothing is needed: all positions are as before.
		checkApplies(t, square, p, impl.Package{}, 120, true)
		checkApplies(t, square, p, impl.Package{Gone: 511, Jumps: rowJumps()}, 120, true)
		// Holes that the board does not have are empty before and now.
		checkApplies(t, square, p, impl.Package{Need: 512 + 121}, 120, p&121 == 120)
		checkApplies(t, square, p, impl.Package{Need: 1 << 62}, 120, true)
		checkApplies(t, square, p, impl.Package{Need: 512}, 120, true)
		// All bits of -1 are set, and all but the last nine of -512.
		checkApplies(t, square, p, impl.Package{Need: -1}, 120, p == 120)
		checkApplies(t, square, p, impl.Package{Need: -512}, 120, true)
		checkApplies(t, square, p, impl.Package{Need: -512 + 121}, 120, p&121 == 120)
		checkApplies(t, square, p, impl.Package{Need: math.MinInt64}, 120, true)
	}
	checkApplies(t, ring(), 0, impl.Package{Need: 511}, 0, true)
	checkApplies(t, ring(), 1, impl.Package{Need: 16}, 0, true)
	checkApplies(t, impl.Rectangle(7, 7), 1<<48, impl.Package{Need: 1 << 48}, 0, false)
	checkApplies(t, impl.Rectangle(7, 7), 1<<48, impl.Package{Need: 1<<48 - 1}, 0, true)
}

func TestUseOfPegsThatAreGone(t *testing.T) {
	square := impl.Rectangle(3, 3)
	for p := range 512 {
		for _, gone := range []int{0, 1, 256, 511, 56, 512, 512 + 56, 1 << 48, 1 << 62} {
			x := impl.Package{Gone: gone}
			if p&gone == gone {
				checkUse(t, square, p, x, 0, p-gone, true)
			} else {
				checkUse(t, square, p, x, 0, p, false)
			}
			// It has the pegs, but is not as before.
			checkUse(t, square, p, impl.Package{Gone: gone, Need: 511}, 511-p, p, false)
		}
		for _, gone := range []int{-1, -511, -512, -56, math.MinInt64, math.MinInt64 + 1, -p, ^p, p + math.MinInt64} {
			if gone < 0 {
				checkUse(t, square, p, impl.Package{Gone: gone}, p, p, false)
				checkUse(t, square, p, impl.Package{Gone: gone, Need: -1}, p, p, false)
			}
		}
	}
	// Need and Gone are as they are given, whatever the jumps are.
	checkUse(t, square, 35, impl.Package{Need: 1, Gone: 2, Jumps: rowJumps()}, 1, 33, true)
	checkUse(t, square, 35, impl.Package{Need: 1, Gone: 2, Jumps: rowJumps()}, 0, 35, false)
	checkUse(t, square, 35, impl.Package{Need: 1, Gone: 6}, 1, 35, false)
	checkUse(t, square, 35, impl.Package{Need: 1, Gone: 35}, 1, 0, true)
}

func TestUseOfAPackageThatDoesNotApply(t *testing.T) {
	square := impl.Rectangle(3, 3)
	for p := range 512 {
		if p&121 == 120 {
			checkUse(t, square, p, rowPackage(), 120, p-56, true)
		} else {
			checkNoUse(t, square, p, rowPackage(), 120)
		}
	}
	checkNoUse(t, square, 505, rowPackage(), 120)
	checkNoUse(t, square, 0, rowPackage(), 120)
	checkNoUse(t, square, 120, rowPackage(), 0)
}

func TestPackagesOfMaxJumpsAndMore(t *testing.T) {
	// No board has pegs for that many jumps: they are no game with the limit as without it.
	for _, count := range []int{49, 59, 60, 61, 62, 1000} {
		checkNoPackage(t, impl.Rectangle(7, 7), 1<<49-2, slices.Repeat([]impl.Line{line3(2, 1, 0)}, count)...)
		checkNoPackage(t, impl.Rectangle(3, 3), 120, slices.Repeat(rowJumps(), count)[:count]...)
		checkNoPackage(t, impl.Rectangle(3, 1), 3, slices.Repeat([]impl.Line{line3(0, 1, 2), line3(2, 1, 0)}, count)[:count]...)
		checkNoPackage(t, impl.Rectangle(3, 3), 0, make([]impl.Line, count)...)
	}
}

func TestPackagesOfPositionsThatAreNotValid(t *testing.T) {
	for _, b := range []impl.Board{impl.Rectangle(3, 3), {Width: 3, Height: 3, Holes: 511 - 256}, impl.Rectangle(7, 7), notch()} {
		// The pegs of the first package are in the board, others are not.
		_, before, _ := impl.RowOfThree(b, b.Width, 0)
		x, _ := impl.PackageOf(b, before, []impl.Line{line3(2*b.Width, b.Width, 0), line3(b.Width+2, b.Width+1, b.Width), line3(0, b.Width, 2*b.Width)})
		bad := invalidPositions(b)
		for _, p := range invalidPositions(b) {
			if p&^b.Holes != 0 {
				bad = append(bad, p&^b.Holes|before)
			}
		}
		for _, p := range bad {
			checkNoPackage(t, b, p, x.Jumps...)
			checkNoPackage(t, b, p, rowJumps()...)
			checkNoPackage(t, b, p, line3(0, 1, 2))
			checkNoPackage(t, b, p)
			// Only one of the two positions is valid, and then neither is.
			for _, y := range []impl.Package{x, {}, {Need: x.Need}, {Gone: x.Gone}, {Need: 1}} {
				for _, valid := range []int{before, 0, b.Holes} {
					checkNoUse(t, b, p, y, valid)
					checkNoUse(t, b, valid, y, p)
				}
				checkNoUse(t, b, p, y, p)
			}
		}
	}
}

func TestPackagesOfInvalidBoards(t *testing.T) {
	for _, b := range brokenBoards() {
		for _, p := range append(greatInts(), -1, 0, 1, 120, 35, 511, b.Holes) {
			for _, jumps := range [][]impl.Line{nil, rowJumps(), twoJumps(), {line3(0, 1, 2)}, {{}}, make([]impl.Line, 61)} {
				checkPackage(t, b, p, jumps, impl.Package{}, false)
			}
			for _, x := range []impl.Package{{}, rowPackage(), {Gone: 1}, {Need: -1}} {
				checkNoUse(t, b, p, x, p)
				checkNoUse(t, b, p, x, 0)
				checkNoUse(t, b, 0, x, p)
			}
		}
		for _, k := range append(greatInts(), -1, 0, 1, 3, 5, 7, 8, 9) {
			for way := -1; way <= 4; way++ {
				checkNoRow(t, b, k, way)
			}
		}
	}
}

func TestPackagesShareNoMemory(t *testing.T) {
	square := impl.Rectangle(3, 3)
	stored := append(rowJumps(), line3(9, 9, 9), line3(8, 8, 8))
	jumps := stored[:3]
	x, ok := impl.PackageOf(square, 120, jumps)
	if !ok || !samePackage(x, rowPackage()) {
		t.Fatalf("PackageOf(%v, 120, %v): got %v and %v", square, jumps, x, ok)
	}
	x.Jumps[0] = line3(1, 1, 1)
	_ = append(x.Jumps, line3(2, 2, 2))
	_ = append(x.Jumps[:1], line3(2, 2, 2))
	if want := append(rowJumps(), line3(9, 9, 9), line3(8, 8, 8)); !slices.Equal(stored, want) {
		t.Errorf("the jumps and what is behind them: got %v, want %v", stored, want)
	}
	x, _ = impl.PackageOf(square, 120, jumps)
	jumps[0], jumps[2] = line3(1, 1, 1), line3(2, 2, 2)
	if !samePackage(x, rowPackage()) {
		t.Errorf("the package follows a change of its jumps: %v", x)
	}
}

func TestRowsAreNewEachTime(t *testing.T) {
	square := impl.Rectangle(3, 3)
	first, _, _ := impl.RowOfThree(square, 3, 0)
	if len(first.Jumps) != 3 {
		t.Fatalf("RowOfThree(%v, 3, 0): got %v", square, first)
	}
	first.Jumps[0] = line3(1, 1, 1)
	_ = append(first.Jumps[:1], line3(2, 2, 2))
	checkRow(t, square, 3, 0, rowPackage(), 120, true)
}

func TestUseLeavesThePackageAsItIs(t *testing.T) {
	square := impl.Rectangle(3, 3)
	x := rowPackage()
	x.Jumps = append(x.Jumps, line3(9, 9, 9))[:3]
	impl.Applies(square, 504, x, 120)
	impl.UsePackage(square, 504, x, 120)
	impl.UsePackage(square, 505, x, 120)
	if !samePackage(x, rowPackage()) || x.Jumps[:4][3] != line3(9, 9, 9) {
		t.Errorf("the package is changed to %v, %v", x, x.Jumps[:4])
	}
}
