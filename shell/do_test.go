package shell_test

import (
	"strings"
	"testing"
)

// TestSubmit: what is asked for has a number, and what can't be an error.
func TestSubmit(t *testing.T) {
	is(t,
		"submit 0 1 1", "job 1",
		"submit 3 4 10000", "job 2",
		"submit 4 1 1", "error 1",
		"submit 255 1 1", "error 1",
		"submit 256 1 1", "error 1", // were it cut off it would be 0
		"submit 257 1 1", "error 1",
		"submit 65536 1 1", "error 1",
		"submit 0 0 1", "error 1",
		"submit 0 1 0", "error 1",
		"submit 0 1 10001", "error 1",
		"submit 0 5 1", "error 9",
		"submit 4 5 1", "error 1",
		"submit 2 3 7", "job 3",
		"jobs", "now 0; 1 0 1 1 0 0; 2 3 4 10000 0 0; 3 2 3 7 0 0",
	)
}

// TestSubmitMany: as many as may be active.
func TestSubmitMany(t *testing.T) {
	l := run(t, joined(times(65, "submit 0 1 9"), []string{"cancel 7"}, times(2, "submit 0 1 9"))...)
	for i, want := range map[int]string{0: "job 1", 63: "job 64", 64: "error 8", 65: "job 7", 66: "job 65", 67: "error 8"} {
		if l[i] != want {
			t.Errorf("line %d is answered %q, want %q", i, l[i], want)
		}
	}
}

// TestCancel: a job goes once.
func TestCancel(t *testing.T) {
	is(t,
		"cancel 1", "error 6",
		"submit 0 2 50", "job 1",
		"submit 0 2 3", "job 2",
		"cancel 3", "error 6",
		"calm 20", "ok",
		"query 2", "state 4 credit 3",
		"cancel 2", "error 10",
		"cancel 1", "job 1",
		"cancel 1", "error 10",
		"jobs", "now 20",
		"calm 20", "ok",
		"nodes", strings.Repeat("life 2 epoch 1; ", 3)+"life 2 epoch 1",
	)
}

// TestQuery: it tells how far a job is, of those that are known.
func TestQuery(t *testing.T) {
	is(t,
		"query 1", "error 6",
		"submit 0 4 3", "job 1",
		"submit 0 4 30", "job 2",
		"query 1", "state 0 credit 0",
		"query 2", "state 0 credit 0",
		"query 3", "error 6",
		"cancel 2", "job 2",
		"query 2", "state 5 credit 0",
		"calm 30", "ok",
		"query 1", "state 4 credit 3",
		"query 1", "state 4 credit 3",
	)
}

// TestSeq: what is answered with an error, and a query, take no number: the next one is done all the same.
func TestSeq(t *testing.T) {
	is(t,
		"cancel 1", "error 6",
		"query 1", "error 6",
		"submit 9 9 9", "error 1",
		"submit 0 1 5", "job 1",
		"query 1", "state 0 credit 0",
		"query 1", "state 0 credit 0",
		"submit 0 5 5", "error 9",
		"submit 0 1 5", "job 2",
		"cancel 2", "job 2",
		"cancel 2", "error 10",
		"submit 0 1 5", "job 3",
		"crash 0 0", "ok",
		"submit 0 1 5", "job 4",
		"submit 1 1", "error 16",
		"submit 0 1 5", "job 5",
	)
}

// TestSeqBehindACrash: what wasn't answered may be done; then its number is that of the next one too, which is answered as it was.
func TestSeqBehindACrash(t *testing.T) {
	is(t, // it isn't done
		"submit 0 1 5", "job 1", "arm 2", "ok", "submit 1 2 6", "error 13", "crash 0 0", "ok",
		"jobs", "now 0; 1 0 1 5 0 0",
		"cancel 1", "job 1", "jobs", "now 0", "submit 1 2 6", "job 2", "jobs", "now 0; 2 1 2 6 0 0",
	)
	is(t, // it is done
		"submit 0 1 5", "job 1", "arm 2", "ok", "submit 1 2 6", "error 13", "crash 1 0", "ok",
		"jobs", "now 0; 1 0 1 5 0 0; 2 1 2 6 0 0",
		"cancel 1", "job 2", "jobs", "now 0; 1 0 1 5 0 0; 2 1 2 6 0 0",
		"cancel 1", "job 1", "jobs", "now 0; 2 1 2 6 0 0",
		"submit 0 1 1", "job 3",
	)
}

// TestCrash: the fates are the digits of the number to the base 4, the lowest first; a torn write has the bytes up to the cut, or those behind it.
func TestCrash(t *testing.T) {
	is := func(crash, want string) {
		t.Helper()
		is(t, "submit 0 1 5", "job 1", "arm 2", "ok", "submit 0 2 6", "error 13", crash, "ok", "jobs", want)
	}
	const one, both = "now 0; 1 0 1 5 0 0", "now 0; 1 0 1 5 0 0; 2 0 2 6 0 0"
	for _, n := range []string{"1", "5", "9", "13", "61", "65", "999999997"} { // the lowest digit is 1
		is("crash "+n+" 0", both)
		is("crash "+n+" 999", both)
	}
	for _, n := range []string{"0", "4", "8", "12", "16", "64", "268435456", "1000"} { // it is 0
		is("crash "+n+" 0", one)
		is("crash "+n+" 128", one)
	}
	for _, n := range []string{"2", "6", "10", "22", "262", "999999998"} { // it is 2
		is("crash "+n+" 0", one)
		is("crash "+n+" 30", one)
		is("crash "+n+" 128", both)
		is("crash "+n+" 999999999", both)
	}
	for _, n := range []string{"3", "7", "11", "23", "263", "999999999"} { // it is 3
		is("crash "+n+" 0", both)
		is("crash "+n+" 30", one)
		is("crash "+n+" 128", one)
		is("crash "+n+" 999999999", one)
	}
}

// TestFlights: what flies lands, flies twice or is lost by its place.
func TestFlights(t *testing.T) {
	is(t,
		"land 0", "error 6", "echo 0", "error 6", "lose 0", "error 6", "air", "0",
		"tick", "ok", "air", "8", // a Hello of each node, and a Beat to each
		"land 8", "error 6", "echo 8", "error 6", "lose 8", "error 6", "air", "8",
		"land 7", "ok", "air", "7",
		"nodes", "life 1 epoch 0; life 1 epoch 0; life 1 epoch 0; life 2 epoch 1",
		"echo 5", "ok", "air", "8",
		"lose 5", "ok", "air", "7",
		"lose 4", "ok", "air", "6",
		"land 0", "ok", "land 0", "ok", "land 0", "ok", "land 0", "ok", "air", "2",
		"nodes", "life 1 epoch 0; life 1 epoch 0; life 1 epoch 0; life 2 epoch 1",
		"land 1", "ok", // the echo
		"nodes", "life 1 epoch 0; life 2 epoch 1; life 1 epoch 0; life 2 epoch 1",
		"land 0", "ok", "land 0", "error 6", "air", "0",
		"nodes", "life 1 epoch 0; life 2 epoch 1; life 2 epoch 1; life 2 epoch 1",
	)
}

// TestFullAir: there is room for as many as Config says.
func TestFullAir(t *testing.T) {
	l := run(t, joined([]string{"tick"}, times(992, "echo 0"), []string{"air", "echo 0", "tick", "air", "lose 999", "lose 999", "echo 0", "air"})...)
	want := []string{"ok", "1000", "error 8", "ok", "1000", "ok", "error 6", "ok", "1000"}
	for i, got := range l[992:] {
		if got != want[i] {
			t.Errorf("line %d is answered %q, want %q", 992+i, got, want[i])
		}
	}
}

// TestTickAndCalm: ticks pass one by one, or up to 400 of them with all that comes.
func TestTickAndCalm(t *testing.T) {
	is(t,
		"tick", "ok", "tick", "ok", "jobs", "now 2", "air", "16",
		"calm 0", "ok", "jobs", "now 2", "air", "16",
		"calm 1", "ok", "jobs", "now 3", "air", "0",
		"calm 400", "ok", "jobs", "now 403",
		"calm 401", "error 1", "jobs", "now 403",
		"calm 399", "ok", "jobs", "now 802",
	)
}

// TestNodesFail: a node begins anew, or hears nothing and isn't heard.
func TestNodesFail(t *testing.T) {
	is(t,
		"restart 3", "ok", "restart 4", "error 1", "deaf 4", "error 1", "hear 4", "error 1", "hear 3", "ok",
		"nodes", "life 1 epoch 0; life 1 epoch 0; life 1 epoch 0; life 2 epoch 0",
		"deaf 0", "ok", "deaf 0", "ok",
		"tick", "ok", "air", "7",
		"calm 1", "ok", "air", "0",
		"nodes", "life 1 epoch 0; life 2 epoch 1; life 2 epoch 1; life 3 epoch 1",
		"calm 1", "ok", "hear 0", "ok", "calm 1", "ok",
		"nodes", "life 2 epoch 1; life 2 epoch 1; life 2 epoch 1; life 3 epoch 1",
		"restart 0", "ok", "restart 0", "ok",
		"nodes", "life 4 epoch 1; life 2 epoch 1; life 2 epoch 1; life 3 epoch 1",
		"deaf 1", "ok", "calm 30", "ok", // behind each bound a life begins: in the ticks 12, 21, 30 and so on
		"hear 1", "ok", "crash 0 0", "ok", "calm 1", "ok",
		"nodes", "life 5 epoch 2; life 6 epoch 2; life 3 epoch 2; life 4 epoch 2",
	)
}

// TestArm: the power goes at a step of the disk, and comes back by a crash alone.
func TestArm(t *testing.T) {
	is(t,
		"arm 0", "ok", "submit 0 4 9", "job 1",
		"arm 1", "ok", "arm 0", "ok", "submit 0 4 9", "job 2",
		"arm 1", "ok", "jobs", "now 0; 1 0 4 9 0 0; 2 0 4 9 0 0", "query 1", "state 0 credit 0", // there is no step in these
		"submit 0 5 9", "error 9", "cancel 9", "error 6",
		"submit 0 1 9", "error 13",
		"submit 0 1 9", "error 13", "submit 0 5 9", "error 13", "cancel 1", "error 13", "query 1", "error 13",
		"jobs", "down", "rows", "down", "air", "0",
		"nodes", "life 1 epoch 0; life 1 epoch 0; life 1 epoch 0; life 1 epoch 0",
		"tick", "ok", "air", "4", "calm 2", "ok", "calm 401", "error 1", "arm 0", "ok", "land 0", "error 6",
		"jobs", "down", "rows", "down",
		"tick", "ok", "land 0", "error 13", "air", "3", "echo 0", "ok", "lose 3", "ok", "calm 0", "ok",
		"restart 2", "ok", "deaf 1", "ok", "hear 1", "ok",
		"arm 7", "ok", "crash 0 0", "ok", // nothing is armed any more
		"jobs", "now 4; 1 0 4 9 0 0; 2 0 4 9 0 0",
		"rows", "gen 0; 0 0 0 0; 0 0 0 0; 0 0 0 0",
		"submit 0 1 9", "job 3", "calm 100", "ok", "jobs", "now 104", "query 3", "state 4 credit 9",
	)
}
