package tests

import (
	"slices"
	"testing"

	"loop.example/g03302/impl"
)

// linesByPlace lists the lines of a board by the places of all pairs of its holes: their distance is two along one side, and the place between them is a hole, too.
func linesByPlace(b impl.Board) []impl.Line {
	holes := holesByPlace(b)
	lines := []impl.Line{}
	for _, from := range holes {
		for _, way := range [][2]int{{2, 0}, {0, 2}, {-2, 0}, {0, -2}} {
			for _, to := range holes {
				x, y := to%b.Width-from%b.Width, to/b.Width-from/b.Width
				over := (from + to) / 2
				if way == [2]int{x, y} && slices.Contains(holes, over) {
					lines = append(lines, impl.Line{From: from, Over: over, To: to})
				}
			}
		}
	}
	return lines
}

// line3 returns a line of its three indices.
func line3(from int, over int, to int) impl.Line {
	return impl.Line{From: from, Over: over, To: to}
}

func checkLines(t *testing.T, b impl.Board, want ...impl.Line) {
	t.Helper()
	if got := impl.LinesOf(b); !slices.Equal(got, want) || impl.CountLines(b) != len(want) {
		t.Errorf("%v: LinesOf %v and CountLines %d, want %v", b, got, impl.CountLines(b), want)
	}
}

func checkLineBetween(t *testing.T, b impl.Board, from int, to int, want impl.Line, wantOk bool) {
	t.Helper()
	got, ok := impl.LineBetween(b, from, to)
	if got != want || ok != wantOk {
		t.Errorf("LineBetween(%v, %d, %d): got %v and %v, want %v and %v", b, from, to, got, ok, want, wantOk)
	}
}

// outsideTheGrid returns indexes that refer to no hole of a board.
func outsideTheGrid(b impl.Board) []int {
	size := b.Width * b.Height
	return append(greatInts(), -1, -2, -b.Width, -2*b.Width, -size, size, size+1, size+b.Width, 63, 64, 128)
}

func TestLinesOfEveryBoard(t *testing.T) {
	eachBoard(func(b impl.Board) {
		checkLines(t, b, linesByPlace(b)...)
	})
}

func TestEveryLineCanBeTurned(t *testing.T) {
	eachBoard(func(b impl.Board) {
		lines := impl.LinesOf(b)
		for _, l := range lines {
			turned := impl.TurnLine(l)
			if turned != line3(l.To, l.Over, l.From) || impl.TurnLine(turned) != l || !slices.Contains(lines, turned) {
				t.Errorf("%v: the line %v turned is %v", b, l, turned)
			}
			checkLineBetween(t, b, l.From, l.To, l, true)
			checkLineBetween(t, b, l.To, l.From, turned, true)
		}
	})
}

func TestLineBetweenAllIndexes(t *testing.T) {
	eachBoard(func(b impl.Board) {
		lines := linesByPlace(b)
		for from := -3; from <= b.Width*b.Height+2; from++ {
			for to := -3; to <= b.Width*b.Height+2; to++ {
				want := impl.Line{}
				at := slices.IndexFunc(lines, func(l impl.Line) bool { return l.From == from && l.To == to })
				if at >= 0 {
					want = lines[at]
				}
				checkLineBetween(t, b, from, to, want, at >= 0)
			}
		}
	})
}

func TestLinesThroughAllIndexes(t *testing.T) {
	eachBoard(func(b impl.Board) {
		lines := linesByPlace(b)
		for k := -2; k <= b.Width*b.Height+1; k++ {
			want := slices.DeleteFunc(slices.Clone(lines), func(l impl.Line) bool { return l.From != k && l.Over != k && l.To != k })
			if got := impl.LinesThrough(b, k); !slices.Equal(got, want) {
				t.Errorf("LinesThrough(%v, %d): got %v, want %v", b, k, got, want)
			}
			lone := slices.Contains(holesByPlace(b), k) && len(want) == 0
			if got := impl.IsLoneHole(b, k); got != lone {
				t.Errorf("IsLoneHole(%v, %d): got %v", b, k, got)
			}
		}
	})
}

func TestOrderOfLines(t *testing.T) {
	checkLines(t, impl.Rectangle(3, 3),
		line3(0, 1, 2), line3(0, 3, 6), line3(1, 4, 7), line3(2, 5, 8), line3(2, 1, 0), line3(3, 4, 5),
		line3(5, 4, 3), line3(6, 7, 8), line3(6, 3, 0), line3(7, 4, 1), line3(8, 7, 6), line3(8, 5, 2))
	plus := impl.Board{Width: 5, Height: 5}
	for _, k := range []int{2, 7, 10, 11, 12, 13, 14, 17, 22} {
		plus.Holes |= 1 << k
	}
	checkLines(t, plus,
		line3(2, 7, 12), line3(7, 12, 17), line3(10, 11, 12), line3(11, 12, 13),
		line3(12, 13, 14), line3(12, 17, 22), line3(12, 11, 10), line3(12, 7, 2),
		line3(13, 12, 11), line3(14, 13, 12), line3(17, 12, 7), line3(22, 17, 12))
}

func TestLinesStayInTheirRows(t *testing.T) {
	checkLines(t, impl.Rectangle(4, 2),
		line3(0, 1, 2), line3(1, 2, 3), line3(2, 1, 0), line3(3, 2, 1),
		line3(4, 5, 6), line3(5, 6, 7), line3(6, 5, 4), line3(7, 6, 5))
	// The holes 2, 3, 4 and 5 of this board are in two rows, of which each has two of them only.
	checkLines(t, impl.Board{Width: 4, Height: 2, Holes: 4 + 8 + 16 + 32})
	checkLineBetween(t, impl.Rectangle(4, 2), 2, 4, impl.Line{}, false)
	checkLineBetween(t, impl.Rectangle(4, 2), 3, 5, impl.Line{}, false)
	checkLineBetween(t, impl.Rectangle(4, 2), 5, 3, impl.Line{}, false)
	checkLineBetween(t, impl.Rectangle(7, 7), 6, 8, impl.Line{}, false)
	checkLineBetween(t, impl.Rectangle(7, 7), 7, 5, impl.Line{}, false)
}

func TestLinesOfNarrowBoards(t *testing.T) {
	for _, b := range []impl.Board{impl.Rectangle(1, 1), impl.Rectangle(1, 2), impl.Rectangle(2, 1), impl.Rectangle(2, 2)} {
		checkLines(t, b)
		for k := range b.Width * b.Height {
			if !impl.IsLoneHole(b, k) || len(impl.LinesThrough(b, k)) != 0 {
				t.Errorf("%v: the hole %d is not a lone one", b, k)
			}
		}
	}
	checkLines(t, impl.Rectangle(3, 1), line3(0, 1, 2), line3(2, 1, 0))
	checkLines(t, impl.Rectangle(1, 3), line3(0, 1, 2), line3(2, 1, 0))
	checkLines(t, impl.Rectangle(2, 3), line3(0, 2, 4), line3(1, 3, 5), line3(4, 2, 0), line3(5, 3, 1))
	checkLines(t, impl.Rectangle(3, 2), line3(0, 1, 2), line3(2, 1, 0), line3(3, 4, 5), line3(5, 4, 3))
	checkLines(t, impl.Rectangle(1, 4), line3(0, 1, 2), line3(1, 2, 3), line3(2, 1, 0), line3(3, 2, 1))
	checkLines(t, impl.Rectangle(4, 1), line3(0, 1, 2), line3(1, 2, 3), line3(2, 1, 0), line3(3, 2, 1))
}

func TestNumberOfLines(t *testing.T) {
	for width := 1; width <= 7; width++ {
		for height := 1; height <= 7; height++ {
			want := 2*max(width-2, 0)*height + 2*max(height-2, 0)*width
			if got := impl.CountLines(impl.Rectangle(width, height)); got != want {
				t.Errorf("CountLines of %d times %d: got %d, want %d", width, height, got, want)
			}
		}
	}
	if got := impl.CountLines(impl.CrossBoard()); got != 76 {
		t.Errorf("CountLines of CrossBoard: got %d, want 76", got)
	}
}

func TestLinesAcrossMissingHoles(t *testing.T) {
	ring := impl.Board{Width: 3, Height: 3, Holes: 511 - 16}
	checkLines(t, ring,
		line3(0, 1, 2), line3(0, 3, 6), line3(2, 5, 8), line3(2, 1, 0),
		line3(6, 7, 8), line3(6, 3, 0), line3(8, 7, 6), line3(8, 5, 2))
	checkLineBetween(t, ring, 1, 7, impl.Line{}, false)
	checkLineBetween(t, ring, 3, 5, impl.Line{}, false)
	if impl.IsLoneHole(ring, 4) || impl.IsLoneHole(ring, 1) || len(impl.LinesThrough(ring, 4)) != 0 {
		t.Error("the ring of eight: a missing hole has lines or is a lone one")
	}
	corners := impl.Board{Width: 3, Height: 3, Holes: 1 + 4 + 64 + 256}
	checkLines(t, corners)
	for k := range 9 {
		if impl.IsLoneHole(corners, k) != impl.HasHole(corners, k) {
			t.Errorf("the board of four corners: IsLoneHole of %d is %v", k, impl.IsLoneHole(corners, k))
		}
	}
	checkLines(t, impl.Board{Width: 4, Height: 1, Holes: 1 + 2 + 8})
	checkLines(t, impl.Board{Width: 1, Height: 4, Holes: 1 + 4 + 8})
}

func TestLinesThroughKeepTheirOrder(t *testing.T) {
	b := impl.Rectangle(3, 3)
	for _, c := range []struct {
		k    int
		want []impl.Line
	}{
		{0, []impl.Line{line3(0, 1, 2), line3(0, 3, 6), line3(2, 1, 0), line3(6, 3, 0)}},
		{1, []impl.Line{line3(0, 1, 2), line3(1, 4, 7), line3(2, 1, 0), line3(7, 4, 1)}},
		{4, []impl.Line{line3(1, 4, 7), line3(3, 4, 5), line3(5, 4, 3), line3(7, 4, 1)}},
		{8, []impl.Line{line3(2, 5, 8), line3(6, 7, 8), line3(8, 7, 6), line3(8, 5, 2)}},
	} {
		if got := impl.LinesThrough(b, c.k); !slices.Equal(got, c.want) {
			t.Errorf("LinesThrough of the hole %d: got %v, want %v", c.k, got, c.want)
		}
	}
}

func TestLinesOfIndexesOutsideTheGrid(t *testing.T) {
	for _, b := range []impl.Board{impl.Rectangle(3, 3), impl.Rectangle(1, 3), impl.Rectangle(7, 7), impl.CrossBoard(), {Width: 3, Height: 2, Holes: 61}} {
		for _, k := range outsideTheGrid(b) {
			if got := impl.LinesThrough(b, k); len(got) != 0 || impl.IsLoneHole(b, k) {
				t.Errorf("%v, %d: LinesThrough %v, IsLoneHole %v", b, k, got, impl.IsLoneHole(b, k))
			}
			for _, m := range []int{0, 2, 8, k, k + 2, k - 2, k + 2*b.Width, k - 2*b.Width} {
				checkLineBetween(t, b, k, m, impl.Line{}, false)
				checkLineBetween(t, b, m, k, impl.Line{}, false)
			}
		}
	}
}

func TestNoLineLeadsToItsFrom(t *testing.T) {
	for _, b := range []impl.Board{impl.Rectangle(1, 1), impl.Rectangle(3, 3), impl.Rectangle(1, 7), impl.CrossBoard()} {
		for k := range b.Width * b.Height {
			checkLineBetween(t, b, k, k, impl.Line{}, false)
		}
	}
}

func TestLinesOfInvalidBoards(t *testing.T) {
	for _, b := range invalidBoards() {
		checkLines(t, b)
		for _, k := range append(greatInts(), -1, 0, 1, 2, 4, 6, 48, 49) {
			if got := impl.LinesThrough(b, k); len(got) != 0 || impl.IsLoneHole(b, k) {
				t.Errorf("%v, %d: LinesThrough %v, IsLoneHole %v", b, k, got, impl.IsLoneHole(b, k))
			}
			checkLineBetween(t, b, k, 2, impl.Line{}, false)
			checkLineBetween(t, b, 0, k, impl.Line{}, false)
		}
	}
}

func TestTurnLineOfAnyNumbers(t *testing.T) {
	for _, n := range append(greatInts(), -1, 0, 7) {
		for _, l := range []impl.Line{line3(n, 1, 2), line3(1, n, 2), line3(1, 2, n), line3(n, n, n), {}} {
			if got := impl.TurnLine(l); got != line3(l.To, l.Over, l.From) {
				t.Errorf("TurnLine(%v): got %v", l, got)
			}
		}
	}
}

func TestLinesResultsAreNew(t *testing.T) {
	b := impl.Rectangle(3, 1)
	for _, list := range []func() []impl.Line{
		func() []impl.Line { return impl.LinesOf(b) },
		func() []impl.Line { return impl.LinesThrough(b, 1) },
	} {
		first := list()
		if len(first) != 2 {
			t.Fatalf("the lines of %v: got %v", b, first)
		}
		first[0] = line3(9, 9, 9)
		_ = append(first[:1], line3(9, 9, 9))
		if again := list(); !slices.Equal(again, []impl.Line{line3(0, 1, 2), line3(2, 1, 0)}) {
			t.Errorf("the lines of %v after the first result was changed: got %v", b, again)
		}
	}
}
