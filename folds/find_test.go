package folds

import (
	"math/rand"
	"slices"
	"testing"

	"archipelago/api"
)

// P13.2: the chapter's examples.
func TestExamplesOfFind(t *testing.T) {
	log := []api.Entry{entry(5, opens, 1), entry(6, adds, 3), entry(6, adds, 3), entry(7, takes, 9)}
	wantFind(t, log, 6, 1, true)
	wantFind(t, log, 8, 0, false)
}

// P13.2: the first entry and the last one, and a log of one.
func TestFindFirstAndLast(t *testing.T) {
	log := []api.Entry{entry(5, opens, 1), entry(6, adds, 3), entry(7, takes, 9)}
	wantFind(t, log, 5, 0, true)
	wantFind(t, log, 7, 2, true)
	wantFind(t, log[:1], 5, 0, true)
	wantFind(t, log[:1], 6, 0, false)
	wantFind(t, log[1:], 5, 0, false)
	wantFind(t, log[1:], 7, 1, true)
}

// P13.2: in a log of none there is no ID, not even 0; nor what stands behind the log's end.
func TestFindInALogOfNone(t *testing.T) {
	for _, id := range append([]int{-1, 0, 1, 5}, ends...) {
		wantFind(t, nil, id, 0, false)
		wantFind(t, []api.Entry{}, id, 0, false)
		wantFind(t, []api.Entry{entry(id, opens, 1)}[:0], id, 0, false)
	}
}

// P13.2: of several entries with the ID it is the first one, next to the others or far ahead of them, whatever else they have.
func TestFindTheFirstOfSeveral(t *testing.T) {
	for _, second := range otherwise(entry(6, adds, 3)) {
		for _, first := range otherwise(entry(6, adds, 3)) {
			for ahead := range 3 {
				var log []api.Entry
				for i := range ahead {
					log = append(log, entry(100+i, adds, 6))
				}
				log = append(log, first, second)
				wantFind(t, log, 6, ahead, true)
				for i := range 70 {
					log = append(log, entry(200+i, adds, 6))
				}
				wantFind(t, append(log, second, second, first), 6, ahead, true)
			}
		}
	}
}

// P13.2: just the ID is asked: no other field with that number is one.
func TestFindByNothingElse(t *testing.T) {
	log := []api.Entry{{Epoch: 6, Order: api.Order{ID: 1, Stream: 6, Expect: 6, Kind: 6, Arg: 6}}, {Order: api.Order{ID: 2, Stream: 1, Kind: 1, Arg: 1}}}
	wantFind(t, log, 6, 0, false)
	wantFind(t, log, 0, 0, false)
	wantFind(t, append(log, entry(6, adds, 1)), 6, 2, true)
}

// P13.2: IDs that may not be are found as well, each as it is; those that have some bits in common are other ones.
func TestFindAnyID(t *testing.T) {
	ids := append([]int{0, -1, -6, 6, 7, 1<<31 + 6, 1<<32 + 6, 1 << 31, 1 << 32, 1 << 40}, ends...)
	var log []api.Entry
	for i, id := range ids {
		wantFind(t, log, id, 0, false)
		log = append(log, entry(id, adds, 1))
		wantFind(t, log, id, i, true)
	}
	log = append(log, log...)
	for i, id := range ids {
		wantFind(t, log, id, i, true)
	}
}

// P13.2: each ID of a log of hundreds of entries, and of one of very many.
func TestFindInLongLogs(t *testing.T) {
	for _, length := range []int{64, 65, 700} {
		var log []api.Entry
		for i := range length {
			log = append(log, entry(length-i, adds, 1))
		}
		for i := range length {
			wantFind(t, append(log, log...), length-i, i, true)
		}
		wantFind(t, log, length+1, 0, false)
	}
	log := slices.Repeat([]api.Entry{entry(1, adds, 1)}, 300000)
	log[299999].Order.ID = 2
	wantFind(t, log, 1, 0, true)
	wantFind(t, log, 2, 299999, true)
	wantFind(t, log, 3, 0, false)
}

// P13.2: random logs are searched as the second hand searches them.
func TestRandomFinds(t *testing.T) {
	r := rand.New(rand.NewSource(136))
	found, not := 0, 0
	for range 20000 {
		log := randomLog(r, r.Intn(30))
		id := r.Intn(40) - 1
		if len(log) > 0 && r.Intn(3) == 0 {
			id = log[r.Intn(len(log))].Order.ID
		}
		place, ok := findByHand(log, id)
		wantFind(t, log, id, place, ok)
		if ok {
			found++
		} else {
			not++
		}
	}
	if found < 5000 || not < 5000 {
		t.Errorf("only %d IDs were found, and %d were not", found, not)
	}
}
