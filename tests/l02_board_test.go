package tests

import (
	"math"
	"math/rand"
	"slices"
	"testing"

	"loop.example/g03302/impl"
)

// greatInts returns the numbers at the ends of an int, and some whose products and sums wrap around to small ones.
func greatInts() []int {
	return []int{
		math.MaxInt64, math.MaxInt64 - 1, math.MinInt64, math.MinInt64 + 1,
		1 << 62, 1 << 32, 1<<32 + 1, -1 << 32, math.MaxInt32, math.MinInt32,
	}
}

// invalidBoards returns boards for which BoardOk is false, each for one reason or several.
func invalidBoards() []impl.Board {
	list := []impl.Board{
		{},
		{Width: 0, Height: 3, Holes: 1}, {Width: 3, Height: 0, Holes: 1}, {Width: 0, Height: 0, Holes: 1},
		{Width: 8, Height: 1, Holes: 1}, {Width: 1, Height: 8, Holes: 1}, {Width: 8, Height: 8, Holes: 1}, {Width: 8, Height: 7, Holes: 1},
		{Width: -1, Height: 3, Holes: 1}, {Width: 3, Height: -1, Holes: 1}, {Width: -1, Height: -1, Holes: 1}, {Width: -3, Height: -2, Holes: 61},
		{Width: 3, Height: 2, Holes: 0}, {Width: 3, Height: 2, Holes: -1}, {Width: 3, Height: 2, Holes: -61}, {Width: 3, Height: 2, Holes: 64},
		{Width: 1, Height: 1, Holes: 0}, {Width: 1, Height: 1, Holes: 2}, {Width: 1, Height: 1, Holes: 3}, {Width: 1, Height: 1, Holes: -1},
		{Width: 7, Height: 7, Holes: 1 << 49}, {Width: 7, Height: 7, Holes: 1<<49 + 1}, {Width: 7, Height: 7, Holes: 0}, {Width: 7, Height: 7, Holes: -1},
	}
	for _, n := range greatInts() {
		list = append(list,
			impl.Board{Width: n, Height: 3, Holes: 1}, impl.Board{Width: 3, Height: n, Holes: 1}, impl.Board{Width: n, Height: n, Holes: 1},
			impl.Board{Width: 3, Height: 2, Holes: n}, impl.Board{Width: n, Height: n, Holes: n})
		if n < 1 || n >= 1<<49 {
			list = append(list, impl.Board{Width: 7, Height: 7, Holes: n})
		}
	}
	return list
}

// eachBoard calls check for all boards of at most 9 indices, and for some of each greater grid.
func eachBoard(check func(b impl.Board)) {
	random := rand.New(rand.NewSource(2))
	for width := 1; width <= impl.MaxSide; width++ {
		for height := 1; height <= impl.MaxSide; height++ {
			all := 1<<(width*height) - 1
			if width*height <= 9 {
				for holes := 1; holes <= all; holes++ {
					check(impl.Board{Width: width, Height: height, Holes: holes})
				}
				continue
			}
			for _, holes := range []int{1, 2, all - 1, all, 1 << (width*height - 1)} {
				check(impl.Board{Width: width, Height: height, Holes: holes})
			}
			for range 20 {
				check(impl.Board{Width: width, Height: height, Holes: 1 + int(random.Int63())%all})
			}
		}
	}
}

// holesByPlace lists the holes of a board X by X and Y by Y, as the document describes them.
func holesByPlace(b impl.Board) []int {
	list := []int{}
	rest := b.Holes
	for y := range b.Height {
		for x := range b.Width {
			if rest%2 == 1 {
				list = append(list, y*b.Width+x)
			}
			rest /= 2
		}
	}
	return list
}

func TestBoardLimit(t *testing.T) {
	if impl.MaxSide != 7 {
		t.Errorf("MaxSide is %d, want 7", impl.MaxSide)
	}
}

func TestBoardOkBySides(t *testing.T) {
	for width := -2; width <= 10; width++ {
		for height := -2; height <= 10; height++ {
			want := width >= 1 && width <= 7 && height >= 1 && height <= 7
			if got := impl.BoardOk(impl.Board{Width: width, Height: height, Holes: 1}); got != want {
				t.Errorf("BoardOk of %d times %d and the hole 0: got %v", width, height, got)
			}
		}
	}
}

func TestBoardOkByHoles(t *testing.T) {
	for width := 1; width <= 7; width++ {
		for height := 1; height <= 7; height++ {
			past := 1 << (width * height)
			for _, c := range []struct {
				holes int
				want  bool
			}{
				{math.MinInt64, false}, {-past, false}, {-1, false}, {0, false}, {1, true}, {past / 2, true}, {past - 1, true},
				{past, false}, {past + 1, false}, {2*past - 1, false}, {1 << 49, false}, {1 << 62, false}, {math.MaxInt64, false},
			} {
				if got := impl.BoardOk(impl.Board{Width: width, Height: height, Holes: c.holes}); got != c.want {
					t.Errorf("BoardOk of %d times %d and Holes %d: got %v", width, height, c.holes, got)
				}
			}
		}
	}
}

func TestHolesAreThoseOfTheBits(t *testing.T) {
	eachBoard(func(b impl.Board) {
		want := holesByPlace(b)
		got := impl.HolesOf(b)
		if !impl.BoardOk(b) || !slices.Equal(got, want) || impl.CountHoles(b) != len(want) {
			t.Errorf("%v: BoardOk %v, HolesOf %v, CountHoles %d, want the holes %v", b, impl.BoardOk(b), got, impl.CountHoles(b), want)
		}
		for k := -2; k <= 66; k++ {
			if impl.HasHole(b, k) != slices.Contains(want, k) {
				t.Errorf("HasHole(%v, %d): got %v", b, k, impl.HasHole(b, k))
			}
		}
	})
}

func TestHoleNamesAreDifferent(t *testing.T) {
	eachBoard(func(b impl.Board) {
		holeOf := map[string]int{}
		for _, k := range impl.HolesOf(b) {
			name := impl.HoleName(b, k)
			if before, ok := holeOf[name]; ok || name == "" {
				t.Errorf("%v: the holes %d and %d have the name %q", b, before, k, name)
			}
			holeOf[name] = k
		}
	})
}

func TestHoleName(t *testing.T) {
	for width := 1; width <= 7; width++ {
		for height := 1; height <= 7; height++ {
			b := impl.Rectangle(width, height)
			for y := range height {
				for x := range width {
					want := string([]byte{byte('a' + x), byte('1' + y)})
					if got := impl.HoleName(b, y*width+x); got != want {
						t.Errorf("HoleName of %d, %d on %d times %d: got %q, want %q", x, y, width, height, got, want)
					}
				}
			}
		}
	}
}

func TestHoleNameWithoutAHole(t *testing.T) {
	b := impl.Board{Width: 3, Height: 2, Holes: 61}
	for _, k := range append(greatInts(), 1, -1, -6, 6, 7, 63, 64, 65, 128) {
		if got := impl.HoleName(b, k); got != "" {
			t.Errorf("HoleName(%v, %d): got %q", b, k, got)
		}
	}
	if got := impl.HoleName(b, 0) + impl.HoleName(b, 2) + impl.HoleName(b, 3) + impl.HoleName(b, 5); got != "a1c1a2c2" {
		t.Errorf("HoleName of %v: got %q", b, got)
	}
}

func TestHasHoleAtTheEnds(t *testing.T) {
	for _, b := range []impl.Board{impl.Rectangle(1, 1), impl.Rectangle(3, 2), impl.Rectangle(2, 3), impl.Rectangle(7, 1), impl.Rectangle(1, 7), impl.Rectangle(7, 7)} {
		size := b.Width * b.Height
		if !impl.HasHole(b, 0) || !impl.HasHole(b, size-1) {
			t.Errorf("HasHole(%v): a hole at the ends is missing", b)
		}
		for _, k := range append(greatInts(), -1, -size, size, size+1, 63, 64, 64+size-1, 128) {
			if impl.HasHole(b, k) {
				t.Errorf("HasHole(%v, %d): got true", b, k)
			}
		}
	}
}

func TestBoardsOfOneHole(t *testing.T) {
	for width := 1; width <= 7; width++ {
		for height := 1; height <= 7; height++ {
			for k := range width * height {
				b := impl.Board{Width: width, Height: height, Holes: 1 << k}
				if !impl.BoardOk(b) || impl.CountHoles(b) != 1 || !slices.Equal(impl.HolesOf(b), []int{k}) || !impl.HasHole(b, k) || impl.HasHole(b, k+1) || impl.HasHole(b, k-1) || impl.HoleName(b, k) == "" {
					t.Errorf("%v: CountHoles %d, HolesOf %v, HoleName %q", b, impl.CountHoles(b), impl.HolesOf(b), impl.HoleName(b, k))
				}
			}
		}
	}
	if got := impl.HoleName(impl.Board{Width: 1, Height: 1, Holes: 1}, 0); got != "a1" {
		t.Errorf("the hole of the least board has the name %q", got)
	}
}

func TestInvalidBoards(t *testing.T) {
	for _, b := range invalidBoards() {
		if impl.BoardOk(b) || impl.CountHoles(b) != 0 || len(impl.HolesOf(b)) != 0 {
			t.Errorf("%v: BoardOk %v, CountHoles %d, HolesOf %v", b, impl.BoardOk(b), impl.CountHoles(b), impl.HolesOf(b))
		}
		for _, k := range append(greatInts(), -1, 0, 1, 5, 6, 48, 49, 63, 64) {
			if impl.HasHole(b, k) || impl.HoleName(b, k) != "" {
				t.Errorf("%v, %d: HasHole %v, HoleName %q", b, k, impl.HasHole(b, k), impl.HoleName(b, k))
			}
		}
	}
}

func TestRectangle(t *testing.T) {
	for width := 1; width <= 7; width++ {
		for height := 1; height <= 7; height++ {
			want := impl.Board{Width: width, Height: height, Holes: 1<<(width*height) - 1}
			got := impl.Rectangle(width, height)
			if got != want || !impl.BoardOk(got) || impl.CountHoles(got) != width*height {
				t.Errorf("Rectangle(%d, %d): got %v, want %v", width, height, got, want)
			}
		}
	}
}

func TestRectangleRejects(t *testing.T) {
	for _, n := range append(greatInts(), -7, -1, 0, 8, 9, 64) {
		for _, m := range append(greatInts(), -7, -1, 0, 1, 7, 8) {
			if impl.Rectangle(n, m) != (impl.Board{}) || impl.Rectangle(m, n) != (impl.Board{}) {
				t.Errorf("Rectangle of %d and %d: got %v and %v, want the zero Board", n, m, impl.Rectangle(n, m), impl.Rectangle(m, n))
			}
		}
	}
}

func TestCrossBoard(t *testing.T) {
	rows := []string{
		"  ooo  ",
		"  ooo  ",
		"ooooooo",
		"ooooooo",
		"ooooooo",
		"  ooo  ",
		"  ooo  ",
	}
	b := impl.CrossBoard()
	if b.Width != 7 || b.Height != 7 || !impl.BoardOk(b) || impl.CountHoles(b) != 33 {
		t.Fatalf("CrossBoard: got %v with %d holes", b, impl.CountHoles(b))
	}
	for y, row := range rows {
		for x := range row {
			if impl.HasHole(b, 7*y+x) != (row[x] == 'o') {
				t.Errorf("CrossBoard: HasHole of %d, %d is %v", x, y, impl.HasHole(b, 7*y+x))
			}
		}
	}
	if impl.HoleName(b, 2) != "c1" || impl.HoleName(b, 24) != "d4" || impl.HoleName(b, 34) != "g5" || impl.HoleName(b, 0) != "" || impl.HoleName(b, 48) != "" {
		t.Error("CrossBoard: a hole has another name than it should")
	}
}

func TestHolesOfResultsAreNew(t *testing.T) {
	b := impl.Board{Width: 3, Height: 2, Holes: 61}
	first := impl.HolesOf(b)
	if len(first) != 5 {
		t.Fatalf("HolesOf(%v): got %v", b, first)
	}
	first[0] = 99
	_ = append(first[:1], 99)
	if again := impl.HolesOf(b); !slices.Equal(again, []int{0, 2, 3, 4, 5}) {
		t.Errorf("HolesOf(%v) after its result was changed: got %v", b, again)
	}
}
