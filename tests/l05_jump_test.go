package tests

import (
	"slices"
	"testing"

	"loop.example/g03302/impl"
)

// ring returns the square of nine holes without the one in the middle.
func ring() impl.Board { return impl.Board{Width: 3, Height: 3, Holes: 511 - 16} }

// pegsBefore reports whether the pegs of a list allow a jump from the first hole of a line over the second one to the third one.
func pegsBefore(pegs []int, l impl.Line) bool {
	return slices.Contains(pegs, l.From) && slices.Contains(pegs, l.Over) && !slices.Contains(pegs, l.To)
}

// pegsAfter reports whether the pegs of a list are as such a jump leaves them.
func pegsAfter(pegs []int, l impl.Line) bool {
	return !slices.Contains(pegs, l.From) && !slices.Contains(pegs, l.Over) && slices.Contains(pegs, l.To)
}

// positionWith adds up the position of a list of pegs without some holes and with some others.
func positionWith(pegs []int, without []int, with ...int) int {
	kept := slices.DeleteFunc(slices.Clone(pegs), func(k int) bool { return slices.Contains(without, k) })
	return positionOf(append(kept, with...)...)
}

// fittingPositions returns positions of a board in which the pegs of any three numbers are as before a jump or as after it, as far as they are holes.
func fittingPositions(b impl.Board, l impl.Line) []int {
	holes := holesByPlace(b)
	jumper := slices.DeleteFunc(slices.Clone(holes), func(k int) bool { return k != l.From && k != l.Over })
	landed := slices.DeleteFunc(slices.Clone(holes), func(k int) bool { return k != l.To })
	return []int{
		positionOf(jumper...), positionOf(landed...),
		positionWith(holes, []int{l.To}), positionWith(holes, []int{l.From, l.Over}),
	}
}

func checkDo(t *testing.T, b impl.Board, p int, l impl.Line, want int, wantOk bool) {
	t.Helper()
	if got, ok := impl.DoJump(b, p, l); got != want || ok != wantOk || impl.CanJump(b, p, l) != wantOk {
		t.Errorf("%v, %d, %v: DoJump %d and %v, CanJump %v, want %d and %v", b, p, l, got, ok, impl.CanJump(b, p, l), want, wantOk)
	}
}

func checkUndo(t *testing.T, b impl.Board, p int, l impl.Line, want int, wantOk bool) {
	t.Helper()
	if got, ok := impl.UndoJump(b, p, l); got != want || ok != wantOk || impl.CanUndo(b, p, l) != wantOk {
		t.Errorf("%v, %d, %v: UndoJump %d and %v, CanUndo %v, want %d and %v", b, p, l, got, ok, impl.CanUndo(b, p, l), want, wantOk)
	}
}

// checkJumpAndBack checks a jump from one position to another, its undoing, and that neither can be done twice.
func checkJumpAndBack(t *testing.T, b impl.Board, before int, l impl.Line, after int) {
	t.Helper()
	checkDo(t, b, before, l, after, true)
	checkUndo(t, b, after, l, before, true)
	checkDo(t, b, after, l, after, false)
	checkUndo(t, b, before, l, before, false)
}

// checkNoJump checks that a line can neither be used nor undone.
func checkNoJump(t *testing.T, b impl.Board, p int, l impl.Line) {
	t.Helper()
	checkDo(t, b, p, l, p, false)
	checkUndo(t, b, p, l, p, false)
}

func checkJumpsOf(t *testing.T, b impl.Board, p int, want ...impl.Line) {
	t.Helper()
	if got := impl.JumpsOf(b, p); !slices.Equal(got, want) {
		t.Errorf("JumpsOf(%v, %d): got %v, want %v", b, p, got, want)
	}
}

func checkUndosOf(t *testing.T, b impl.Board, p int, want ...impl.Line) {
	t.Helper()
	if got := impl.UndosOf(b, p); !slices.Equal(got, want) {
		t.Errorf("UndosOf(%v, %d): got %v, want %v", b, p, got, want)
	}
}

// checkJumpsFrom checks all functions of the chapter for the position of a list of pegs and all lines of its board.
func checkJumpsFrom(t *testing.T, b impl.Board, lines []impl.Line, pegs []int) {
	t.Helper()
	p := positionOf(pegs...)
	jumps, undos := []impl.Line{}, []impl.Line{}
	for _, l := range lines {
		before, after := pegsBefore(pegs, l), pegsAfter(pegs, l)
		done, undone := p, p
		if before {
			jumps = append(jumps, l)
			done = positionWith(pegs, []int{l.From, l.Over}, l.To)
		}
		if after {
			undos = append(undos, l)
			undone = positionWith(pegs, []int{l.To}, l.From, l.Over)
		}
		checkDo(t, b, p, l, done, before)
		checkUndo(t, b, p, l, undone, after)
	}
	checkJumpsOf(t, b, p, jumps...)
	checkUndosOf(t, b, p, undos...)
}

func TestJumpsOfEveryBoard(t *testing.T) {
	eachBoard(func(b impl.Board) {
		lines := linesByPlace(b)
		eachPosition(b, func(pegs []int) { checkJumpsFrom(t, b, lines, pegs) })
	})
}

func TestJumpsOfAllPositions(t *testing.T) {
	for _, b := range []impl.Board{impl.Rectangle(3, 3), ring(), impl.Rectangle(4, 2), impl.Rectangle(2, 5), impl.Rectangle(7, 1)} {
		lines := linesByPlace(b)
		for p := range b.Holes + 1 {
			if p&b.Holes == p {
				checkJumpsFrom(t, b, lines, holesByPlace(impl.Board{Width: b.Width, Height: b.Height, Holes: p}))
			}
		}
	}
}

func TestAJumpRemovesOnePegAndCanBeUndone(t *testing.T) {
	eachBoard(func(b impl.Board) {
		eachPosition(b, func(pegs []int) {
			p := positionOf(pegs...)
			for _, l := range impl.JumpsOf(b, p) {
				after, ok := impl.DoJump(b, p, l)
				if !ok || !impl.PositionOk(b, after) || impl.CountPegs(b, after) != len(pegs)-1 {
					t.Errorf("%v, %d, %v: DoJump %d and %v with %d pegs", b, p, l, after, ok, impl.CountPegs(b, after))
				}
				if !slices.Contains(impl.UndosOf(b, after), l) {
					t.Errorf("%v, %d: UndosOf %v, want %v among them", b, after, impl.UndosOf(b, after), l)
				}
				checkUndo(t, b, after, l, p, true)
			}
			for _, l := range impl.UndosOf(b, p) {
				before, ok := impl.UndoJump(b, p, l)
				if !ok || !impl.PositionOk(b, before) || impl.CountPegs(b, before) != len(pegs)+1 {
					t.Errorf("%v, %d, %v: UndoJump %d and %v with %d pegs", b, p, l, before, ok, impl.CountPegs(b, before))
				}
				if !slices.Contains(impl.JumpsOf(b, before), l) {
					t.Errorf("%v, %d: JumpsOf %v, want %v among them", b, before, impl.JumpsOf(b, before), l)
				}
				checkDo(t, b, before, l, p, true)
			}
		})
	})
}

func TestJumpsInAllFourDirections(t *testing.T) {
	b := impl.Rectangle(3, 3)
	checkJumpAndBack(t, b, 8+16, line3(3, 4, 5), 32)
	checkJumpAndBack(t, b, 2+16, line3(1, 4, 7), 128)
	checkJumpAndBack(t, b, 32+16, line3(5, 4, 3), 8)
	checkJumpAndBack(t, b, 128+16, line3(7, 4, 1), 2)
	checkJumpAndBack(t, b, 35, line3(0, 1, 2), 36)
	checkJumpAndBack(t, b, 36, line3(2, 5, 8), 256)
	checkJumpAndBack(t, impl.Rectangle(7, 7), 1<<46+1<<47, line3(46, 47, 48), 1<<48)
	checkJumpAndBack(t, impl.Rectangle(7, 7), 1<<48+1<<41, line3(48, 41, 34), 1<<34)
	checkJumpAndBack(t, impl.Rectangle(7, 7), 1<<49-1-1<<48, line3(34, 41, 48), 1<<49-1-1<<34-1<<41)
}

func TestEveryChoiceOfPegsOnALine(t *testing.T) {
	l := line3(0, 1, 2)
	for _, b := range []impl.Board{impl.Rectangle(3, 1), impl.Rectangle(1, 3), impl.Rectangle(3, 3)} {
		for _, p := range []int{0, 1, 2, 5, 6, 7} {
			checkNoJump(t, b, p, l)
		}
		checkJumpAndBack(t, b, 3, l, 4)
		checkJumpAndBack(t, b, 6, impl.TurnLine(l), 1)
		checkNoJump(t, b, 3, impl.TurnLine(l))
		checkNoJump(t, b, 4, impl.TurnLine(l))
	}
}

func TestOrderOfJumpsAndUndos(t *testing.T) {
	b := impl.Rectangle(5, 5)
	checkJumpsOf(t, b, positionOf(7, 11, 12, 13, 17),
		line3(12, 13, 14), line3(12, 17, 22), line3(12, 11, 10), line3(12, 7, 2))
	checkUndosOf(t, b, positionOf(12),
		line3(2, 7, 12), line3(10, 11, 12), line3(14, 13, 12), line3(22, 17, 12))
	checkUndosOf(t, b, positionOf(2, 10, 14, 22),
		line3(0, 1, 2), line3(0, 5, 10), line3(4, 9, 14), line3(4, 3, 2),
		line3(12, 13, 14), line3(12, 17, 22), line3(12, 11, 10), line3(12, 7, 2),
		line3(20, 21, 22), line3(20, 15, 10), line3(24, 23, 22), line3(24, 19, 14))
	cross := impl.CrossBoard()
	middle := []impl.Line{line3(10, 17, 24), line3(22, 23, 24), line3(26, 25, 24), line3(38, 31, 24)}
	checkJumpsOf(t, cross, impl.FullBut(cross, 24), middle...)
	checkUndosOf(t, cross, impl.SinglePeg(cross, 24), middle...)
}

func TestJumpsFromEmptyAndFullPositions(t *testing.T) {
	eachBoard(func(b impl.Board) {
		for _, p := range []int{0, b.Holes} {
			checkJumpsOf(t, b, p)
			checkUndosOf(t, b, p)
		}
	})
}

func TestNoJumpCrossesTheBorder(t *testing.T) {
	b := impl.Rectangle(4, 2)
	for _, l := range []impl.Line{line3(2, 3, 4), line3(3, 4, 5), line3(5, 4, 3), line3(4, 3, 2)} {
		checkNoJump(t, b, positionOf(l.From, l.Over), l)
		checkNoJump(t, b, positionOf(l.To), l)
	}
	checkJumpsOf(t, b, positionOf(2, 3), line3(3, 2, 1))
	checkJumpsOf(t, b, positionOf(3, 4))
	checkJumpsOf(t, b, positionOf(4, 5), line3(4, 5, 6))
	checkUndosOf(t, b, positionOf(3), line3(1, 2, 3))
	checkUndosOf(t, b, positionOf(4), line3(6, 5, 4))
	great := impl.Rectangle(7, 7)
	for _, l := range []impl.Line{line3(5, 6, 7), line3(6, 7, 8), line3(8, 7, 6), line3(7, 6, 5), line3(40, 41, 42)} {
		checkNoJump(t, great, positionOf(l.From, l.Over), l)
		checkNoJump(t, great, positionOf(l.To), l)
	}
	square := impl.Rectangle(3, 3)
	for _, l := range []impl.Line{line3(3, 0, -3), line3(4, 1, -2), line3(5, 8, 11), line3(4, 7, 10), line3(1, 0, -1), line3(7, 8, 9)} {
		checkNoJump(t, square, positionOf(l.From, l.Over), l)
		checkNoJump(t, square, 0, l)
	}
}

func TestLinesWhoseOverIsNotBetween(t *testing.T) {
	b := impl.Rectangle(3, 3)
	for _, l := range []impl.Line{
		line3(0, 3, 2), line3(0, 4, 2), line3(0, 8, 2), line3(0, 2, 1), line3(1, 0, 2), line3(0, 4, 8), line3(2, 4, 6), line3(0, 1, 8),
		line3(0, 1, 1), line3(0, 0, 2), line3(0, 2, 2), line3(0, 1, 0), line3(4, 4, 4), line3(0, 3, 7), line3(0, 1, 4), {},
	} {
		for _, p := range fittingPositions(b, l) {
			checkNoJump(t, b, p, l)
		}
	}
}

func TestLinesThatAreNotOfTheBoard(t *testing.T) {
	for _, b := range []impl.Board{notch(), ring(), impl.Rectangle(3, 3), impl.Rectangle(4, 2), impl.Rectangle(1, 4), {Width: 3, Height: 1, Holes: 3}} {
		lines := linesByPlace(b)
		size := b.Width * b.Height
		for n := range (size + 4) * (size + 4) * (size + 4) {
			l := line3(n%(size+4)-2, n/(size+4)%(size+4)-2, n/(size+4)/(size+4)-2)
			if slices.Contains(lines, l) {
				continue
			}
			for _, p := range fittingPositions(b, l) {
				checkNoJump(t, b, p, l)
			}
		}
	}
}

func TestLinesWithAMissingHole(t *testing.T) {
	for _, l := range []impl.Line{line3(0, 1, 2), line3(2, 1, 0)} {
		for missing := range 3 {
			b := impl.Board{Width: 3, Height: 1, Holes: 7 - 1<<missing}
			for p := range 8 {
				checkNoJump(t, b, p, l)
			}
		}
	}
	for _, l := range []impl.Line{line3(3, 4, 5), line3(5, 4, 3), line3(1, 4, 7), line3(7, 4, 1)} {
		checkNoJump(t, ring(), positionOf(l.From), l)
		checkNoJump(t, ring(), positionOf(l.From, l.Over), l)
		checkNoJump(t, ring(), positionOf(l.To), l)
	}
}

func TestLinesOutsideTheGrid(t *testing.T) {
	for _, b := range []impl.Board{notch(), impl.Rectangle(3, 3), impl.Rectangle(1, 1), impl.Rectangle(7, 7), impl.CrossBoard()} {
		for _, k := range outsideTheGrid(b) {
			for _, l := range []impl.Line{
				line3(k, 1, 2), line3(0, k, 2), line3(0, 1, k), line3(k, k, k), line3(k, k+1, k+2), line3(k, k-1, k-2),
				line3(k, k+b.Width, k+2*b.Width), line3(k, k-b.Width, k-2*b.Width),
			} {
				for _, p := range []int{0, 1, 3, 4, b.Holes, b.Holes - 1, -1} {
					checkNoJump(t, b, p, l)
				}
			}
		}
	}
}

func TestJumpsOfPositionsThatAreNotValid(t *testing.T) {
	for _, b := range []impl.Board{notch(), ring(), impl.Rectangle(3, 3), impl.Rectangle(7, 7), impl.CrossBoard()} {
		for _, bad := range invalidPositions(b) {
			checkJumpsOf(t, b, bad)
			checkUndosOf(t, b, bad)
			for _, l := range linesByPlace(b) {
				checkNoJump(t, b, bad, l)
				// What is outside the board stays, and the pegs on the line would allow a jump or its undoing.
				outside := bad &^ b.Holes
				for _, p := range []int{outside | positionOf(l.From, l.Over), outside | positionOf(l.To)} {
					if outside != 0 {
						checkNoJump(t, b, p, l)
						checkJumpsOf(t, b, p)
						checkUndosOf(t, b, p)
					}
				}
			}
		}
	}
}

func TestJumpsOfInvalidBoards(t *testing.T) {
	boards := append(invalidBoards(),
		impl.Board{Width: 8, Height: 1, Holes: 255}, impl.Board{Width: 1, Height: 8, Holes: 255}, impl.Board{Width: 8, Height: 8, Holes: -1},
		impl.Board{Width: 3, Height: 0, Holes: 7}, impl.Board{Width: 0, Height: 3, Holes: 7}, impl.Board{Width: -3, Height: -3, Holes: 511},
		impl.Board{Width: 3, Height: 3, Holes: 1023}, impl.Board{Width: 3, Height: 3, Holes: 511 - 1024}, impl.Board{Width: 7, Height: 7, Holes: 1<<50 - 1})
	for _, b := range boards {
		for _, p := range append(greatInts(), -1, 0, 1, 3, 4, 6, 7, 35, b.Holes) {
			for _, l := range []impl.Line{{}, line3(0, 1, 2), line3(2, 1, 0), line3(0, 3, 6), line3(0, 8, 16), line3(5, 6, 7)} {
				checkNoJump(t, b, p, l)
			}
			checkJumpsOf(t, b, p)
			checkUndosOf(t, b, p)
		}
	}
}

func TestJumpsResultsAreNew(t *testing.T) {
	b := impl.Rectangle(3, 1)
	for _, c := range []struct {
		list func(b impl.Board, p int) []impl.Line
		p    int
		want []impl.Line
	}{
		{impl.JumpsOf, 3, []impl.Line{line3(0, 1, 2)}},
		{impl.UndosOf, 4, []impl.Line{line3(0, 1, 2)}},
	} {
		first := c.list(b, c.p)
		if len(first) != 1 {
			t.Fatalf("the lines of %v, %d: got %v", b, c.p, first)
		}
		first[0] = line3(9, 9, 9)
		_ = append(first[:0], line3(9, 9, 9))
		if again := c.list(b, c.p); !slices.Equal(again, c.want) {
			t.Errorf("the lines of %v, %d after the first result was changed: got %v", b, c.p, again)
		}
	}
}
