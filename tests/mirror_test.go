package tests

import (
	"fmt"
	"math"
	"math/rand"
	"regexp"
	"runtime"
	"slices"
	"strconv"
	"strings"
	"sync"
	"testing"
	"time"

	"loop.example/g00447/impl"
)

var existsLine = regexp.MustCompile(`\A\* exists (0|[1-9][0-9]{0,2})\z`)
var goneLine = regexp.MustCompile(`\A\* gone (0|[1-9][0-9]{0,2})\z`)

// wantMirror reads lines by the patterns.
func wantMirror(count int64, lines []string) impl.IntResult {
	if isOut(count, 0, 999) {
		return impl.IntResult{Code: impl.ErrRange}
	}
	for _, line := range lines {
		found := existsLine.FindStringSubmatch(line)
		switch {
		case found != nil:
			count, _ = strconv.ParseInt(found[1], 10, 64)
		case goneLine.MatchString(line) && count > 0:
			count--
		case line == "* closed":
			count = 0
		}
	}
	return impl.IntResult{Value: count}
}

func askMirrored(t *testing.T, count int64, lines ...string) int64 {
	t.Helper()
	want := wantMirror(count, lines)
	got := impl.MirrorCount(count, lines)
	askInt(t, fmt.Sprintf("%d, then %.300q", count, lines), got, want.Code, want.Value)
	return got.Value
}

func TestCountsByHand(t *testing.T) {
	for _, by := range []struct {
		count int64
		lines []string
		want  int64
	}{
		{0, nil, 0}, {7, nil, 7}, {999, nil, 999}, {7, []string{}, 7},
		{0, []string{"* exists 3"}, 3}, {9, []string{"* exists 3"}, 3}, {9, []string{"* exists 0"}, 0}, {9, []string{"* exists 12"}, 12}, {9, []string{"* exists 999"}, 999}, {9, []string{"* exists 100"}, 100},
		{9, []string{"* exists 1000"}, 9}, {9, []string{"* exists 007"}, 9}, {9, []string{"* exists 00"}, 9}, {9, []string{"* exists 01"}, 9}, {9, []string{"* exists 3 "}, 9}, {9, []string{"* exists  3"}, 9}, {9, []string{"* exists"}, 9}, {9, []string{"* exists "}, 9}, {9, []string{"* exists x"}, 9}, {9, []string{"* exists 3x"}, 9}, {9, []string{"* exists -3"}, 9}, {9, []string{"* exists +3"}, 9}, {9, []string{"* exists -0"}, 9}, {9, []string{"* exists 3 4"}, 9}, {9, []string{"* exists3"}, 9}, {9, []string{"* Exists 3"}, 9}, {9, []string{" * exists 3"}, 9}, {9, []string{"exists 3"}, 9}, {9, []string{"a exists 3"}, 9}, {9, []string{"*exists 3"}, 9}, {9, []string{"*  exists 3"}, 9}, {9, []string{"* exists 3\n"}, 9}, {9, []string{"\n* exists 3"}, 9}, {9, []string{"* exists \xd9\xa1"}, 9}, {9, []string{"* exists 3\x00"}, 9}, {9, []string{"* exists 18446744073709551619"}, 9}, {9, []string{"* exists 4294967299"}, 9},
		{9, []string{"* gone 2"}, 8}, {9, []string{"* gone 0"}, 8}, {9, []string{"* gone 10"}, 8}, {9, []string{"* gone 999"}, 8}, {9, []string{"* gone 1000"}, 9}, {9, []string{"* gone 02"}, 9}, {9, []string{"* gone x"}, 9}, {9, []string{"* gone"}, 9}, {9, []string{"* gone "}, 9}, {9, []string{"* gone -1"}, 9}, {9, []string{"* gone 2 "}, 9}, {9, []string{"* gone 2 3"}, 9}, {9, []string{"* gone 1 1"}, 9}, {9, []string{"*gone 2"}, 9}, {9, []string{"* Gone 2"}, 9},
		{0, []string{"* gone 1"}, 0}, {1, []string{"* gone 1"}, 0}, {1, []string{"* gone 1", "* gone 1"}, 0}, {2, []string{"* gone 1", "* gone 1"}, 0}, {0, []string{"* gone 1", "* exists 2"}, 2}, {0, []string{"* gone 5", "* gone 4", "* exists 1", "* gone 1"}, 0},
		{9, []string{"* closed"}, 0}, {0, []string{"* closed"}, 0}, {9, []string{"* closed x"}, 9}, {9, []string{"* closed "}, 9}, {9, []string{" * closed"}, 9}, {9, []string{"*  closed"}, 9}, {9, []string{"* Closed"}, 9}, {9, []string{"* closed 0"}, 9}, {9, []string{"* close"}, 9}, {9, []string{"closed"}, 9}, {9, []string{"* closed\n"}, 9}, {9, []string{"* closed", "* exists 4"}, 4}, {9, []string{"* exists 4", "* closed"}, 0}, {9, []string{"* closed", "* gone 1"}, 0},
		{9, []string{""}, 9}, {9, []string{"*"}, 9}, {9, []string{"* "}, 9}, {9, []string{"a ok"}, 9}, {9, []string{"a no 4"}, 9}, {9, []string{"* bad"}, 9}, {9, []string{"* added 3"}, 9}, {9, []string{"* copied 1 2"}, 9}, {9, []string{"* found 1 2"}, 9}, {9, []string{"* valid 3"}, 9}, {9, []string{"* 2 flags 8"}, 9}, {9, []string{"* 1 size 3"}, 9}, {9, []string{"\x00\xff"}, 9}, {9, []string{"* exists 3* exists 4"}, 9}, {9, []string{"* gone 1\n* gone 1"}, 9},
		{2, []string{"* gone 2", "d ok"}, 1}, {5, []string{"* gone 2", "* exists 4"}, 4}, {9, []string{"* exists 3", "* valid 1", "a ok"}, 3},
	} {
		askInt(t, fmt.Sprintf("%d, then %q", by.count, by.lines), impl.MirrorCount(by.count, by.lines), impl.OK, by.want)
		askMirrored(t, by.count, by.lines...)
	}
}

func TestCountsThatAreNone(t *testing.T) {
	for _, lines := range [][]string{nil, {}, {"* exists 3"}, {"* closed"}, {"* gone 1"}, {"", "x"}} {
		for _, count := range []int64{math.MinInt64, math.MinInt64 + 1, -1 << 32, -2, -1, 1000, 1001, 1 << 32, 1<<32 + 5, math.MaxInt64 - 1, math.MaxInt64} {
			askInt(t, fmt.Sprint(count), impl.MirrorCount(count, lines), impl.ErrRange, 0)
		}
		for _, count := range []int64{0, 1, 2, 998, 999} {
			askMirrored(t, count, lines...)
		}
	}
}

func TestLinesThatAreAlmostSuch(t *testing.T) {
	numbers := []string{"", " ", "0", "1", "9", "10", "99", "100", "999", "1000", "9999", "00", "01", "001", "0999", "-1", "+1", "1.", "1,2", "x", "1x", "*", strings.Repeat("9", 400), strings.Repeat("0", 1<<16)}
	for _, begin := range []string{"*", "", " *", "**", "a", "* *"} {
		for _, gap := range []string{" ", "", "  ", "\t", "\n"} {
			for _, word := range []string{"exists", "gone", "closed", "Exists", "exist", "going", "", "ok", "valid", "added", "found"} {
				for _, number := range numbers {
					for _, line := range []string{begin + gap + word + " " + number, begin + " " + word + gap + number, begin + gap + word + number, begin + " " + word + " " + number + gap} {
						for _, count := range []int64{0, 5, 999} {
							askMirrored(t, count, line)
						}
					}
				}
			}
		}
	}
	for n := range 1100 {
		askMirrored(t, 5, "* exists "+strconv.Itoa(n))
		askMirrored(t, 5, "* gone "+strconv.Itoa(n))
	}
}

func TestCountsOfManyLines(t *testing.T) {
	words := []string{"* exists 0", "* exists 3", "* exists 999", "* exists 1000", "* gone 1", "* gone 1", "* gone 2", "* gone 0", "* closed", "* closed x", "", "a ok", "* added 9", "* gone"}
	draw := rand.New(rand.NewSource(15))
	for range 3000 {
		var lines []string
		for range draw.Intn(40) {
			lines = append(lines, words[draw.Intn(len(words))])
		}
		whole := askMirrored(t, draw.Int63n(1000), lines...)
		// Lines that are heard in two parts come to the same.
		cut := draw.Intn(len(lines) + 1)
		start := int64(draw.Intn(1000))
		askInt(t, "in two parts", impl.MirrorCount(impl.MirrorCount(start, lines[:cut]).Value, lines[cut:]), impl.OK, impl.MirrorCount(start, lines).Value)
		askInt(t, "closed behind it", impl.MirrorCount(whole, append(lines, "* closed")), impl.OK, 0)
	}
	askMirrored(t, 999, slices.Repeat([]string{"* gone 1"}, 998)...)
	askMirrored(t, 999, slices.Repeat([]string{"* gone 1"}, 1<<16)...)
	askMirrored(t, 7, slices.Repeat([]string{"a ok"}, 1<<16)...)
}

func TestNobodySpeaksAnyMoreBehindACount(t *testing.T) {
	lines := []string{"* exists 5", "* gone 1", "a ok"}
	before := runtime.NumGoroutine()
	for range 500 {
		askInt(t, "a count", impl.MirrorCount(9, lines), impl.OK, 4)
		// The lines are the caller's again as soon as there is an answer.
		for i, line := range lines {
			lines[i] = ""
			lines[i] = line
		}
		impl.MirrorCount(-1, lines)
	}
	for range 1000 {
		if runtime.NumGoroutine() <= before {
			return
		}
		time.Sleep(time.Millisecond)
	}
	t.Errorf("%d goroutines are left over", runtime.NumGoroutine()-before)
}

func TestCountsSideBySide(t *testing.T) {
	var all sync.WaitGroup
	for n := range int64(50) {
		all.Go(func() {
			for range 40 {
				if got := impl.MirrorCount(n, []string{"* exists " + strconv.FormatInt(n, 10), "* gone 1"}); got.Code != impl.OK || got.Value != max(n-1, 0) {
					t.Errorf("%d: got code %d %d", n, got.Code, got.Value)
				}
			}
		})
	}
	all.Wait()
}
