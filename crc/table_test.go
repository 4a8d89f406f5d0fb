package crc

import (
	"sync"
	"testing"

	"quadrat/api"
)

// emptied lets the table be as it is before the first call, till the test ends.
func emptied(t *testing.T) {
	Entry(0)
	before := table
	t.Cleanup(func() {
		clear(table[:])
		built = sync.Once{}
		Entry(0)
		if table != before {
			t.Error("the table was filled in another way than before")
		}
	})
	clear(table[:])
	built = sync.Once{}
}

// five calls those of the chapter, and fails unless they answer what they must.
func five(t *testing.T) {
	t.Helper()
	if sum := Of([]byte("123456789")); sum != 0xCBF43926 {
		t.Errorf("Of: %08X", sum)
	}
	if sum := More(Of([]byte("1234")), []byte("56789")); sum != 0xCBF43926 {
		t.Errorf("More: %08X", sum)
	}
	if sum, e := Join(Of([]byte("1234")), Of([]byte("56789")), 5); sum != 0xCBF43926 || e != api.OK {
		t.Errorf("Join: %08X, error %d", sum, e)
	}
	sealed := Seal([]byte("123456789"))
	if string(sealed) != "123456789\xCB\xF4\x39\x26" {
		t.Errorf("Seal: % X", sealed)
	}
	if b, e := Open(sealed); string(b) != "123456789" || e != api.OK {
		t.Errorf("Open: % X, error %d", b, e)
	}
	sealed[0]++
	if b, e := Open(sealed); len(b) != 0 || e != api.ErrSum {
		t.Errorf("Open of other bytes: % X, error %d", b, e)
	}
}

func TestSumsDoNotFillTheTable(t *testing.T) {
	emptied(t)
	five(t)
	if table != [len(table)]uint32{} {
		t.Error("the table was filled")
	}
	first := false
	built.Do(func() { first = true })
	if !first {
		t.Error("the table was asked for")
	}
}

func TestSumsDoNotReadTheTable(t *testing.T) {
	emptied(t)
	Entry(0)
	for i := range table {
		table[i] = ^table[i] + uint32(i)
	}
	five(t)
}

func TestTableIsFilledOnce(t *testing.T) {
	emptied(t)
	Entry(3)
	if table == [len(table)]uint32{} {
		t.Fatal("the table is empty")
	}
	table[3] = 77
	if has := Entry(3); has != 77 {
		t.Errorf("the table was filled again: %08X", has)
	}
}

// The first call of all fills the table: here several come at once, and none may see a part of it.
func TestEntriesAtOnce(t *testing.T) {
	emptied(t)
	var all sync.WaitGroup
	var has [16]uint32
	for i := range has {
		all.Go(func() { has[i] = Entry(255) })
	}
	all.Wait()
	for _, x := range has {
		if x != 0x2D02EF8D {
			t.Errorf("Entry: %08X", x)
		}
	}
}
