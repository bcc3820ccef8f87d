package tests

import (
	"math/rand"
	"slices"
	"testing"

	"loop.example/g03302/impl"
)

// notch is a board that is not square and has no hole at the index 1.
func notch() impl.Board { return impl.Board{Width: 3, Height: 2, Holes: 61} }

// positionOf adds up the powers of 2 of the holes of a list.
func positionOf(holes ...int) int {
	p := 0
	for _, k := range holes {
		power := 1
		for range k {
			power *= 2
		}
		p += power
	}
	return p
}

// eachPosition calls check for the pegs of all positions of a board of at most 6 holes, and of the empty one, the full one and some others of a greater board.
func eachPosition(b impl.Board, check func(pegs []int)) {
	holes := holesByPlace(b)
	if len(holes) > 6 {
		random := rand.New(rand.NewSource(4))
		check(nil)
		check(holes)
		for range 10 {
			check(slices.DeleteFunc(slices.Clone(holes), func(int) bool { return random.Intn(2) == 0 }))
		}
		return
	}
	for choice := range 1 << len(holes) {
		pegs := []int{}
		for i, k := range holes {
			if choice/positionOf(i)%2 == 1 {
				pegs = append(pegs, k)
			}
		}
		check(pegs)
	}
}

// textByPlace writes the rows of a position from the lists of its holes and its pegs.
func textByPlace(b impl.Board, pegs []int) []string {
	rows := []string{}
	k := 0
	for range b.Height {
		row := ""
		for range b.Width {
			switch {
			case slices.Contains(pegs, k):
				row += "o"
			case slices.Contains(holesByPlace(b), k):
				row += "."
			default:
				row += " "
			}
			k++
		}
		rows = append(rows, row)
	}
	return rows
}

// invalidPositions returns numbers for which PositionOk is false on a valid board.
func invalidPositions(b impl.Board) []int {
	list := []int{-1, -2, -b.Holes, 1 << 62, 1<<62 + b.Holes, 1 << 49, 1<<49 + b.Holes}
	for _, n := range greatInts() {
		if n < 0 || n >= 1<<49 {
			list = append(list, n)
		}
	}
	for k := range b.Width*b.Height + 2 {
		if !slices.Contains(holesByPlace(b), k) {
			list = append(list, positionOf(k), positionOf(k)+b.Holes, b.Holes/2|positionOf(k), -positionOf(k))
		}
	}
	return list
}

// checkRejected checks that all functions of the chapter reject a position, with a hole and without one.
func checkRejected(t *testing.T, b impl.Board, p int) {
	t.Helper()
	if impl.PositionOk(b, p) || impl.CountPegs(b, p) != -1 || len(impl.PositionText(b, p)) != 0 {
		t.Errorf("%v, %d: PositionOk %v, CountPegs %d, PositionText %q", b, p, impl.PositionOk(b, p), impl.CountPegs(b, p), impl.PositionText(b, p))
	}
	for _, k := range []int{-1, 0, 1, 2, 5, 8, 24, 48, 49, 62, 63, 64} {
		if impl.HasPeg(b, p, k) {
			t.Errorf("HasPeg(%v, %d, %d): got true", b, p, k)
		}
		checkSetPeg(t, b, p, k, true, p, false)
		checkSetPeg(t, b, p, k, false, p, false)
	}
}

func checkSetPeg(t *testing.T, b impl.Board, p int, k int, on bool, want int, wantOk bool) {
	t.Helper()
	if got, ok := impl.SetPeg(b, p, k, on); got != want || ok != wantOk {
		t.Errorf("SetPeg(%v, %d, %d, %v): got %d and %v, want %d and %v", b, p, k, on, got, ok, want, wantOk)
	}
}

func checkText(t *testing.T, b impl.Board, p int, want ...string) {
	t.Helper()
	if got := impl.PositionText(b, p); !slices.Equal(got, want) {
		t.Errorf("PositionText(%v, %d): got %q, want %q", b, p, got, want)
	}
}

func TestPegsOfEveryPosition(t *testing.T) {
	eachBoard(func(b impl.Board) {
		eachPosition(b, func(pegs []int) {
			p := positionOf(pegs...)
			if !impl.PositionOk(b, p) || impl.CountPegs(b, p) != len(pegs) {
				t.Errorf("%v, %d: PositionOk %v, CountPegs %d, want %d", b, p, impl.PositionOk(b, p), impl.CountPegs(b, p), len(pegs))
			}
			for k := -2; k <= b.Width*b.Height+1; k++ {
				if got := impl.HasPeg(b, p, k); got != slices.Contains(pegs, k) {
					t.Errorf("HasPeg(%v, %d, %d): got %v", b, p, k, got)
				}
			}
		})
	})
}

func TestTextShowsAllPegs(t *testing.T) {
	eachBoard(func(b impl.Board) {
		eachPosition(b, func(pegs []int) {
			checkText(t, b, positionOf(pegs...), textByPlace(b, pegs)...)
		})
	})
}

func TestAPegCanBePutAndTakenAway(t *testing.T) {
	eachBoard(func(b impl.Board) {
		eachPosition(b, func(pegs []int) {
			p := positionOf(pegs...)
			for k := range b.Width * b.Height {
				if !slices.Contains(holesByPlace(b), k) {
					checkSetPeg(t, b, p, k, true, p, false)
					checkSetPeg(t, b, p, k, false, p, false)
					continue
				}
				with, without := p, p
				if slices.Contains(pegs, k) {
					without = p - positionOf(k)
				} else {
					with = p + positionOf(k)
				}
				checkSetPeg(t, b, p, k, true, with, true)
				checkSetPeg(t, b, p, k, false, without, true)
				checkSetPeg(t, b, with, k, false, without, true)
				checkSetPeg(t, b, without, k, true, with, true)
			}
		})
	})
}

func TestSetPegTwice(t *testing.T) {
	b := notch()
	checkSetPeg(t, b, 5, 2, true, 5, true)
	checkSetPeg(t, b, 5, 3, false, 5, true)
	checkSetPeg(t, b, 0, 5, true, 32, true)
	checkSetPeg(t, b, 32, 5, true, 32, true)
	checkSetPeg(t, b, 32, 5, false, 0, true)
	checkSetPeg(t, b, 0, 5, false, 0, true)
	checkSetPeg(t, b, 61, 0, true, 61, true)
	checkSetPeg(t, b, 61, 0, false, 60, true)
	checkSetPeg(t, impl.Rectangle(7, 7), 0, 48, true, 1<<48, true)
	checkSetPeg(t, impl.Rectangle(7, 7), 1<<49-1, 48, false, 1<<48-1, true)
}

func TestPlacesWithoutAHole(t *testing.T) {
	for _, b := range []impl.Board{notch(), impl.Rectangle(3, 3), impl.Rectangle(1, 1), impl.Rectangle(7, 7), impl.CrossBoard()} {
		places := outsideTheGrid(b)
		for k := range b.Width * b.Height {
			if !slices.Contains(holesByPlace(b), k) {
				places = append(places, k)
			}
		}
		for _, k := range places {
			for _, p := range []int{0, b.Holes} {
				checkSetPeg(t, b, p, k, true, p, false)
				checkSetPeg(t, b, p, k, false, p, false)
				if impl.HasPeg(b, p, k) {
					t.Errorf("HasPeg(%v, %d, %d): got true", b, p, k)
				}
			}
			if impl.FullBut(b, k) != -1 || impl.SinglePeg(b, k) != -1 {
				t.Errorf("%v, %d: FullBut %d, SinglePeg %d, want -1", b, k, impl.FullBut(b, k), impl.SinglePeg(b, k))
			}
		}
	}
}

func TestFullButAndSinglePeg(t *testing.T) {
	eachBoard(func(b impl.Board) {
		holes := holesByPlace(b)
		for _, k := range holes {
			others := slices.DeleteFunc(slices.Clone(holes), func(other int) bool { return other == k })
			if got := impl.FullBut(b, k); got != positionOf(others...) || !impl.PositionOk(b, got) {
				t.Errorf("FullBut(%v, %d): got %d, want %d", b, k, got, positionOf(others...))
			}
			if got := impl.SinglePeg(b, k); got != positionOf(k) || !impl.PositionOk(b, got) {
				t.Errorf("SinglePeg(%v, %d): got %d, want %d", b, k, got, positionOf(k))
			}
		}
	})
	if impl.FullBut(impl.Rectangle(1, 1), 0) != 0 || impl.SinglePeg(impl.Rectangle(1, 1), 0) != 1 {
		t.Error("the least board: FullBut or SinglePeg of its hole is another position than it should be")
	}
}

func TestEmptyAndFullPositions(t *testing.T) {
	b := notch()
	if !impl.PositionOk(b, 0) || impl.CountPegs(b, 0) != 0 || impl.HasPeg(b, 0, 0) {
		t.Errorf("the empty position of %v: PositionOk %v, CountPegs %d", b, impl.PositionOk(b, 0), impl.CountPegs(b, 0))
	}
	if !impl.PositionOk(b, 61) || impl.CountPegs(b, 61) != 5 || !impl.HasPeg(b, 61, 0) || impl.HasPeg(b, 61, 1) {
		t.Errorf("the full position of %v: PositionOk %v, CountPegs %d", b, impl.PositionOk(b, 61), impl.CountPegs(b, 61))
	}
	checkText(t, b, 0, ". .", "...")
	checkText(t, b, 61, "o o", "ooo")
	if got := impl.CountPegs(impl.Rectangle(7, 7), 1<<49-1); got != 49 {
		t.Errorf("CountPegs of the full greatest board: got %d, want 49", got)
	}
	if got := impl.CountPegs(impl.CrossBoard(), impl.FullBut(impl.CrossBoard(), 24)); got != 32 {
		t.Errorf("CountPegs of the cross without its middle: got %d, want 32", got)
	}
}

func TestTextOfBoardsThatAreNotSquare(t *testing.T) {
	checkText(t, notch(), 5, "o o", "...")
	checkText(t, notch(), 33, "o .", "..o")
	checkText(t, impl.Rectangle(7, 1), 1+64, "o.....o")
	checkText(t, impl.Rectangle(1, 7), 1+4+64, "o", ".", "o", ".", ".", ".", "o")
	checkText(t, impl.Rectangle(2, 3), 2+4+16, ".o", "o.", "o.")
	checkText(t, impl.Board{Width: 2, Height: 4, Holes: 8}, 8, "  ", " o", "  ", "  ")
	checkText(t, impl.Board{Width: 4, Height: 2, Holes: 8}, 0, "   .", "    ")
	checkText(t, impl.CrossBoard(), impl.FullBut(impl.CrossBoard(), 24),
		"  ooo  ", "  ooo  ", "ooooooo", "ooo.ooo", "ooooooo", "  ooo  ", "  ooo  ")
}

func TestPositionsThatAreNotValid(t *testing.T) {
	for _, b := range []impl.Board{notch(), impl.Rectangle(3, 3), impl.Rectangle(1, 1), impl.Rectangle(7, 7), impl.CrossBoard(), {Width: 7, Height: 7, Holes: 1 << 48}} {
		for _, p := range invalidPositions(b) {
			checkRejected(t, b, p)
		}
	}
}

func TestPositionsOfInvalidBoards(t *testing.T) {
	for _, b := range invalidBoards() {
		for _, p := range append(greatInts(), -1, 0, 1, 5, b.Holes) {
			checkRejected(t, b, p)
		}
		for _, k := range append(greatInts(), -1, 0, 1, 5, 48, 49, 63) {
			if impl.FullBut(b, k) != -1 || impl.SinglePeg(b, k) != -1 {
				t.Errorf("%v, %d: FullBut %d, SinglePeg %d, want -1", b, k, impl.FullBut(b, k), impl.SinglePeg(b, k))
			}
		}
	}
}

func TestPositionTextResultsAreNew(t *testing.T) {
	first := impl.PositionText(notch(), 5)
	if len(first) != 2 {
		t.Fatalf("PositionText(%v, 5): got %q", notch(), first)
	}
	first[0] = "changed"
	_ = append(first[:1], "changed")
	checkText(t, notch(), 5, "o o", "...")
}
