package folder

import (
	"slices"

	"quadrat/api"
)

// The limits of a setting's numbers that package api has no names for, and the greatest error that a job may have failed by.
const (
	minFrames  = 8
	minTile    = 1
	minFan     = 2
	maxFan     = 16
	minJournal = 8
	maxJournal = 1024
	maxErr     = 999
)

// within says whether a number is one of least to most.
func within(n, least, most int) bool { return least <= n && n <= most }

// dataBegin is where a setting's data area begins: behind its journal.
func dataBegin(s api.Setting) int { return api.Begin + s.Journal }

// isProgress says whether a folder tells rightly how far a job is.
func isProgress(f api.Folder) bool {
	if f.Next < 1 || !within(f.Done, 0, api.MaxStatements) || !within(f.Len, 0, api.MaxSource) {
		return false
	}
	switch f.State {
	case api.Running, api.Done:
		return f.Err == api.OK
	case api.Failed:
		return within(int(f.Err), 1, maxErr)
	}
	return false
}

// areEntries says whether a folder's entries are valid, each by itself and all of them together.
func areEntries(f api.Folder) bool {
	if len(f.Entries) > api.MaxFiles {
		return false
	}
	for i, x := range f.Entries {
		if !isEntry(x, f.Set) || x.No >= f.Next || i > 0 && x.Name <= f.Entries[i-1].Name {
			return false
		}
	}
	return haveOwnNumbers(f.Entries) && areApart(Reach(f))
}

// haveOwnNumbers says whether no two entries have the same number.
func haveOwnNumbers(entries []api.Entry) bool {
	var numbers []int64
	for _, x := range entries {
		numbers = append(numbers, x.No)
	}
	slices.Sort(numbers)
	return len(slices.Compact(numbers)) == len(entries)
}

// areApart says whether no two extents, which are in order and none of which is empty, have a sector in common. It takes those that follow one another to tell.
func areApart(extents []api.Extent) bool {
	end := 0
	for _, x := range extents {
		if x.At < end {
			return false
		}
		end = x.At + x.N
	}
	return true
}

// isEntry says whether an entry is valid for a setting, which is valid itself. A shape that may not be asks for no number of tiles, not even for the one that Tiles tells of it.
func isEntry(x api.Entry, s api.Setting) bool {
	if !isName(x.Name) || x.No < 1 || x.Kind != api.KindNum && x.Kind != api.KindChar {
		return false
	}
	tiles := Tiles(x.Shape, s.Tile)
	return tiles != none && x.Tiles == tiles && isPlaced(x, s)
}

// isPlaced says whether an entry's extent lies within the data area.
func isPlaced(x api.Entry, s api.Setting) bool {
	if x.Tiles == 0 {
		return x.At == 0
	}
	return within(x.At, dataBegin(s), s.Sectors-x.Tiles*s.Tile)
}

// isName says whether a file may have such a name.
func isName(name string) bool {
	if !within(len(name), 1, api.MaxName) || !isLetter(name[0]) {
		return false
	}
	for _, c := range []byte(name) {
		if !isLetter(c) && !isDigit(c) && c != '_' {
			return false
		}
	}
	return true
}

// isLetter says whether a byte is one of the letters that names are made of.
func isLetter(c byte) bool { return 'A' <= c && c <= 'Z' || 'a' <= c && c <= 'z' }

// isDigit says whether a byte is a digit.
func isDigit(c byte) bool { return '0' <= c && c <= '9' }
