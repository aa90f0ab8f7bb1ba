package octet

import (
	"sync"
	"testing"
)

// Way 1: the table and the function tell the same, for all 256 high bytes.
func TestTableIsThatOfTheFunction(t *testing.T) {
	table := sumTable()
	if len(table) != 256 {
		t.Fatalf("the table has %d words", len(table))
	}
	for i, word := range table {
		high := byte(i)
		if want := sumWord(high); word != want || TableWord(high) != want {
			t.Errorf("word %02x: %04x in the table, TableWord %04x, worked out %04x", high, word, TableWord(high), want)
		}
	}
}

// Way 1: the table is made once, whoever asks first.
func TestTableInManyGoroutines(t *testing.T) {
	got := make([][256]uint16, 32)
	var all sync.WaitGroup
	for i := range got {
		all.Go(func() {
			for high := range got[i] {
				got[i][high] = TableWord(byte(high))
			}
		})
	}
	all.Wait()
	for i, words := range got {
		if words != makeSumTable() {
			t.Errorf("goroutine %d was told another table", i)
		}
	}
}
