package note_test

import (
	"testing"

	"quadrat/api"
)

func TestTilesAndRunsNotedTwice(t *testing.T) {
	l := made(tile(1, 2, 7), tile(1, 2, 7), run(1, 3, 8), run(1, 3, 8))
	tells(t, "a tile with one file", l.Tile, 1, 2, 7, true)
	tells(t, "a run with one file", l.Run, 1, 3, 8, true)
	l = made(tile(1, 2, 7), tile(1, 2, 5), run(1, 3, 8), run(1, 3, 9))
	tells(t, "a tile with two files", l.Tile, 1, 2, 5, true)
	tells(t, "a run with two files", l.Run, 1, 3, 9, true)
	l = made(tile(1, 2, 7), run(1, 2, 9), tile(0, 2, 3), tile(1, 1, 4), tile(1, 2, 0), run(0, 2, 6), run(1, 2, 0), tile(2, 2, 8))
	tells(t, "a tile whose last file is 0", l.Tile, 1, 2, 0, true)
	tells(t, "a run whose last file is 0", l.Run, 1, 2, 0, true)
	has(t, "the notes stay", made(tile(1, 2, 7), tile(1, 2, 7), tile(1, 2, 5)), tile(1, 2, 7), tile(1, 2, 7), tile(1, 2, 5))
}

func TestTilesAndRunsOfTheSameStepAndNumber(t *testing.T) {
	l := made(tile(1, 2, 7), run(1, 2, 9))
	tells(t, "the tile", l.Tile, 1, 2, 7, true)
	tells(t, "the run", l.Run, 1, 2, 9, true)
	l = made(tile(1, 2, 7), run(2, 1, 9))
	tells(t, "a run that is none", l.Run, 1, 2, 0, false)
	tells(t, "a tile that is none", l.Tile, 2, 1, 0, false)
	tells(t, "the tile", l.Tile, 1, 2, 7, true)
	tells(t, "the run", l.Run, 2, 1, 9, true)
}

// A file of 0 is one, too: a tile that has it is complete.
func TestFilesOfZero(t *testing.T) {
	l := made(tile(0, 0, 0), run(3, 0, 0))
	tells(t, "a tile", l.Tile, 0, 0, 0, true)
	tells(t, "a run", l.Run, 3, 0, 0, true)
	tells(t, "no run", l.Run, 0, 0, 0, false)
	tells(t, "no tile", l.Tile, 3, 0, 0, false)
	if l.Done(0) != 1 || l.Done(3) != 0 || l.Steps() != 4 {
		t.Errorf("Done %d, %d, Steps %d", l.Done(0), l.Done(3), l.Steps())
	}
}

func TestSeveralSteps(t *testing.T) {
	var l []api.Note
	for i := range 24 {
		l = append(l, tile(i/4, i%4, int64(100+i)), run(i%6, i/6, int64(200+i)))
	}
	has(t, "several steps", made(l...), l...)
	has(t, "their tiles and runs at the edges", made(tile(0, most, 1), tile(most, 0, 2), run(most, most, 3), run(0, 0, 4)), tile(0, most, 1), tile(most, 0, 2), run(most, most, 3), run(0, 0, 4))
	x := made(l...)
	tells(t, "a tile", x.Tile, 3, 2, 114, true)
	tells(t, "a run", x.Run, 3, 2, 215, true)
}

// done fails unless so many tiles of a step are complete.
func done(t *testing.T, what string, step, asked int, l ...api.Note) {
	t.Helper()
	if got := made(l...).Done(step); got != asked {
		t.Errorf("%s: Done(%d) is %d, want %d", what, step, got, asked)
	}
}

func TestDone(t *testing.T) {
	done(t, "nothing", 0, 0)
	done(t, "a tile", 0, 1, tile(0, 0, 7))
	done(t, "a tile twice", 0, 1, tile(0, 0, 7), tile(0, 0, 7))
	done(t, "a tile with two files", 0, 1, tile(0, 0, 7), tile(0, 0, 8))
	done(t, "tiles twice", 2, 3, tile(2, 0, 7), tile(2, 1, 7), tile(2, 0, 7), tile(2, 5, 7), tile(2, 1, 9), tile(2, 5, 7))
	done(t, "tiles not in order", 1, 3, tile(1, 9, 7), tile(1, 0, 7), tile(1, most, 7))
	done(t, "runs alone", 1, 0, run(1, 0, 7), run(1, 1, 7))
	done(t, "a tile behind a run of its number", 1, 1, run(1, 0, 7), tile(1, 0, 7))
	done(t, "a tile ahead of a run of its number", 1, 1, tile(1, 0, 7), run(1, 0, 7), run(1, 3, 7))
	done(t, "tiles of other steps", 1, 0, tile(0, 1, 7), tile(2, 1, 7))
	done(t, "the last step", most, 2, tile(most, 1, 7), tile(most, most, 7), tile(0, 0, 7))
	done(t, "an end", 1, 0, end(1, 1))
	done(t, "a commit", 1, 0, commit(1))
	done(t, "a tile behind a commit", 1, 1, tile(1, 0, 7), commit(1), tile(1, 1, 7))
	var l []api.Note
	for i := range 4096 {
		l = append(l, tile(3, i, 7), tile(i%3, i, 8))
	}
	done(t, "as many tiles as there may be", 3, 4096, l...)
	done(t, "a third of them", 1, 1365, l...)
}

// steps fails unless a log has so many steps.
func steps(t *testing.T, what string, asked int, l ...api.Note) {
	t.Helper()
	if got := made(l...).Steps(); got != asked {
		t.Errorf("%s: Steps is %d, want %d", what, got, asked)
	}
}

func TestSteps(t *testing.T) {
	steps(t, "nothing", 0)
	steps(t, "a tile of step 0", 1, tile(0, 5, 7))
	steps(t, "a run of step 0", 1, run(0, 5, 7))
	steps(t, "tiles alone", 4, tile(1, 0, 7), tile(3, 0, 7), tile(2, 0, 7))
	steps(t, "runs alone", 4, run(1, 0, 7), run(3, 0, 7), run(2, 0, 7))
	steps(t, "a tile of the greatest", 6, run(1, 0, 7), tile(5, 0, 7), run(2, 9, 7))
	steps(t, "a run of the greatest", 6, tile(1, 0, 7), run(5, 0, 7), tile(2, 9, 7))
	steps(t, "one step alone", 8, tile(7, 0, 7), run(7, 0, 7), tile(7, 1, 7), tile(7, 0, 7))
	steps(t, "the greatest of a tile", most+1, tile(most, 0, 7), tile(0, 0, 7))
	steps(t, "the greatest of a run", most+1, run(0, 0, 7), run(most, 0, 7))
	steps(t, "a commit", 0, commit(4))
	steps(t, "a commit of the greatest", 1, run(0, 0, 7), commit(most))
	steps(t, "an end of the greatest", 1, tile(0, 0, 7), end(most, most))
	steps(t, "tiles behind a commit", 2, tile(1, 0, 7), commit(4), tile(5, 0, 7))
	steps(t, "runs behind a beginning", 2, run(1, 0, 7), begun(4), run(5, 0, 7))
}

// What a statement began with is no step.
func TestNumbersOfTheStatementAreNoStep(t *testing.T) {
	l := made()
	for _, step := range []int{0, 4} {
		tells(t, "Tile", l.Tile, step, 0, 0, false)
		tells(t, "Run", l.Run, step, 0, 0, false)
		done(t, "no tile", step, 0)
	}
}

func TestNumbersThatNoPieceHas(t *testing.T) {
	l := made(tile(0, 0, 7), tile(1, 1, 7), tile(most, most, 7), run(0, 0, 8), run(1, 1, 8), run(most, most, 8))
	for _, x := range noNumbers() {
		for _, y := range []int{0, 1, most, x} {
			tells(t, "Tile", l.Tile, x, y, 0, false)
			tells(t, "Tile", l.Tile, y, x, 0, false)
			tells(t, "Run", l.Run, x, y, 0, false)
			tells(t, "Run", l.Run, y, x, 0, false)
		}
		if l.Done(x) != 0 {
			t.Errorf("Done(%d) is %d", x, l.Done(x))
		}
	}
	has(t, "behind all that", l, tile(0, 0, 7), tile(1, 1, 7), tile(most, most, 7), run(0, 0, 8), run(1, 1, 8), run(most, most, 8))
}
