package lists

import (
	"math/rand"
	"testing"

	"archipelago/api"
)

// someLogs are random logs, of which many have beginnings in common; among them are such as rise, and long ones.
func someLogs(seed int64, times int) [][]api.Entry {
	r := rand.New(rand.NewSource(seed))
	l := [][]api.Entry{nil, {}, logOf(a), logOf(a, b, c), logOf(c, a), randomLog(r, 300), risingLog(r, 300)}
	for range times {
		log := randomLog(r, r.Intn(12))
		if r.Intn(2) == 0 {
			log = risingLog(r, r.Intn(12))
		}
		other := cousin(r, log)
		l = append(l, log, other, cousin(r, other))
	}
	return l
}

// P14.4: each log is a beginning of itself.
func TestEachLogIsABeginningOfItself(t *testing.T) {
	for _, log := range append(someLogs(241, 2000), allOf(5, a, b, c)...) {
		wantPrefix(t, log, log, true)
		wantPrefix(t, append([]api.Entry{}, log...), log, true)
	}
}

// P14.4: two logs that are beginnings of one another are one, and two that are one are beginnings of one another.
func TestBeginningsOfOneAnotherAreOne(t *testing.T) {
	logs := someLogs(242, 150)
	same := 0
	for i, x := range logs {
		for k, y := range logs {
			both := Prefix(x, y) && Prefix(y, x)
			if both != isSame(x, y) {
				t.Fatalf("%v and %v are beginnings of one another: %t", x, y, both)
			}
			if both && i != k && len(x) > 0 {
				same++
			}
		}
	}
	if same < 20 {
		t.Errorf("only %d pairs were one", same)
	}
}

// P14.4: a beginning's beginnings are its own: of three short logs, each with each.
func TestABeginningsBeginningsOfShortLogs(t *testing.T) {
	logs := allOf(4, a, b, c)
	chains := 0
	for _, x := range logs {
		for _, y := range logs {
			if !Prefix(x, y) {
				continue
			}
			for _, z := range logs {
				if Prefix(y, z) {
					chains++
					wantPrefix(t, x, z, true)
				}
			}
		}
	}
	if chains < 1000 {
		t.Errorf("only %d chains", chains)
	}
}

// P14.4: a beginning's beginnings are its own: all beginnings of all beginnings of a random log.
func TestABeginningsBeginnings(t *testing.T) {
	for _, log := range someLogs(243, 200) {
		for _, y := range beginnings(log[:min(len(log), 20)]) {
			wantPrefix(t, y, log, true)
			for _, x := range beginnings(y) {
				wantPrefix(t, x, y, true)
				wantPrefix(t, x, log, true)
			}
		}
	}
}

// P14.4: of two beginnings of one log one is a beginning of the other: the shorter one, with which it has all in common.
func TestOneOfTwoBeginnings(t *testing.T) {
	for _, log := range someLogs(244, 300) {
		log = log[:min(len(log), 40)]
		for _, x := range beginnings(log) {
			for _, y := range beginnings(log) {
				if !Prefix(x, y) && !Prefix(y, x) {
					t.Fatalf("neither of %v and %v is a beginning of the other", x, y)
				}
				wantBoth(t, x, y, min(len(x), len(y)))
			}
		}
	}
}

// P14.4: of two short logs one is a beginning of the other, wherever both are beginnings of a third one.
func TestTwoBeginningsOfAThird(t *testing.T) {
	logs := allOf(4, a, b, c)
	for _, z := range logs {
		var l [][]api.Entry
		for _, x := range logs {
			if Prefix(x, z) {
				l = append(l, x)
			}
		}
		if len(l) != len(z)+1 {
			t.Fatalf("%v has %d beginnings among all logs", z, len(l))
		}
		for _, x := range l {
			for _, y := range l {
				if !Prefix(x, y) && !Prefix(y, x) {
					t.Fatalf("neither of %v and %v is a beginning of the other", x, y)
				}
			}
		}
	}
}

// P14.4: of a log that rises each beginning does; and where each does, so does the log.
func TestBeginningsOfALogThatRises(t *testing.T) {
	rise := 0
	for _, log := range append(someLogs(245, 1500), allOf(5, a, b, c)...) {
		all := true
		for _, x := range beginnings(log) {
			all = all && Rising(x)
		}
		if all != Rising(log) {
			t.Fatalf("%v rises: %t, and each beginning does: %t", log, Rising(log), all)
		}
		if all && len(log) > 1 {
			rise++
		}
	}
	if rise < 1000 {
		t.Errorf("only %d logs rise", rise)
	}
}

// P14.4: a log that rises, and each of its beginnings, has as many seals as unlike epochs; any other has that many at least.
func TestAsManySealsAsUnlikeEpochs(t *testing.T) {
	rise, more := 0, 0
	for _, log := range append(someLogs(246, 1500), allOf(5, a, b, c)...) {
		for _, x := range beginnings(log) {
			seals, epochs := len(Seals(x)), unlike(x)
			if Rising(x) && seals != epochs || seals < epochs {
				t.Fatalf("%v has %d seals, and %d unlike epochs", x, seals, epochs)
			}
			if Rising(x) && epochs > 1 {
				rise++
			}
			if seals > epochs {
				more++
			}
		}
	}
	if rise < 1000 || more < 1000 {
		t.Errorf("only %d beginnings rise, and %d have more seals than epochs", rise, more)
	}
}
