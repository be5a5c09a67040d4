package tests

import (
	"fmt"
	"math"
	"slices"
	"testing"

	"loop.example/g00447/impl"
)

// wantSlice asks each place of the list if it is meant.
func wantSlice(list []int64, from, to int64) (slice []int64, code int64) {
	code = firstCode(asked{len(list) > 60, impl.ErrMany}, asked{isOut(from, 1, 999), impl.ErrRange}, asked{isOut(to, 1, 999), impl.ErrRange})
	if code != impl.OK {
		return nil, code
	}
	for place, n := range list {
		if at := int64(place) + 1; at >= from && at <= to || at >= to && at <= from {
			slice = append(slice, n)
		}
	}
	return slice, impl.OK
}

func askSlice(t *testing.T, list []int64, from, to int64) {
	t.Helper()
	got := impl.SliceList(list, from, to)
	slice, code := wantSlice(list, from, to)
	if got.Code != code || !slices.Equal(got.List, slice) {
		t.Errorf("%d to %d of %d numbers, %v: got code %d %v, want code %d %v", from, to, len(list), list[:min(len(list), 9)], got.Code, got.List, code, slice)
	}
}

// slicedLists have 0 to 60 numbers, of any kind and in any order.
func slicedLists() [][]int64 {
	return [][]int64{nil, {}, {7}, {math.MinInt64}, {2, 1}, {5, 5, 5}, {0, -1, math.MaxInt64, math.MinInt64, 1000}, {6, 4, 2, 1, 3, 5}, numbersFrom(1, 59), numbersFrom(-30, 29), times(30, 9, -9), numberArguments()}
}

func TestSlicesByHand(t *testing.T) {
	list := []int64{40, 50, 60, 70, 80}
	for _, by := range []struct {
		from, to int64
		want     []int64
	}{
		{1, 1, []int64{40}}, {1, 2, []int64{40, 50}}, {2, 1, []int64{40, 50}}, {3, 3, []int64{60}}, {2, 4, []int64{50, 60, 70}}, {4, 2, []int64{50, 60, 70}}, {5, 5, []int64{80}},
		{1, 5, list}, {5, 1, list}, {1, 6, list}, {6, 1, list}, {1, 999, list}, {999, 1, list}, {4, 5, []int64{70, 80}}, {5, 6, []int64{80}}, {6, 5, []int64{80}}, {5, 999, []int64{80}}, {999, 5, []int64{80}},
		{6, 6, nil}, {6, 7, nil}, {7, 6, nil}, {6, 999, nil}, {999, 6, nil}, {999, 999, nil},
	} {
		askPath(t, fmt.Sprint(by.from, " to ", by.to), impl.SliceList(list, by.from, by.to), impl.OK, by.want)
		askPath(t, fmt.Sprint(by.from, " to ", by.to, " of nothing"), impl.SliceList(nil, by.from, by.to), impl.OK, nil)
		askSlice(t, list, by.from, by.to)
	}
	askPath(t, "one", impl.SliceList([]int64{-7}, 1, 1), impl.OK, []int64{-7})
	askPath(t, "behind one", impl.SliceList([]int64{-7}, 2, 2), impl.OK, nil)
	askPath(t, "the last of 60", impl.SliceList(numbersFrom(1, 60), 60, 60), impl.OK, []int64{60})
	askPath(t, "behind 60", impl.SliceList(numbersFrom(1, 60), 61, 61), impl.OK, nil)
}

func TestSlicesFromEachPlaceToEachOther(t *testing.T) {
	for _, list := range slicedLists() {
		for from := range int64(64) {
			for to := range int64(64) {
				askSlice(t, list, from, to)
			}
		}
	}
}

func TestSliceListAsksItsCodesInOrder(t *testing.T) {
	ends := []int64{math.MinInt64, math.MinInt64 + 1, -999, -2, -1, 0, 1, 2, 60, 61, 998, 999, 1000, 1001, 1<<32 + 1, math.MaxInt64}
	for _, n := range []int64{0, 1, 59, 60, 61, 62, 999, 1 << 16} {
		for _, list := range [][]int64{numbersFrom(1, n), times(int(n), -1), times(int(n), math.MaxInt64)} {
			for _, from := range ends {
				for _, to := range ends {
					askSlice(t, list, from, to)
				}
			}
		}
	}
	askPath(t, "61 and from", impl.SliceList(times(61, 1), 0, 1), impl.ErrMany, nil)
	askPath(t, "61 and to", impl.SliceList(times(61, 1), 1, 1000), impl.ErrMany, nil)
	askPath(t, "61 alone", impl.SliceList(times(61, 1), 1, 1), impl.ErrMany, nil)
	askPath(t, "60", impl.SliceList(times(60, 1), 1, 1), impl.OK, []int64{1})
	for _, list := range [][]int64{nil, {7}, {1, 2, 3}} {
		for _, n := range []int64{math.MinInt64, -1, 0, 1000, math.MaxInt64} {
			askPath(t, "from", impl.SliceList(list, n, 1), impl.ErrRange, nil)
			askPath(t, "to", impl.SliceList(list, 1, n), impl.ErrRange, nil)
			askPath(t, "both", impl.SliceList(list, n, n), impl.ErrRange, nil)
		}
	}
}

func TestSlicesOfListsMakeTheWhole(t *testing.T) {
	for _, list := range append(slicedLists(), numbersFrom(1, 60)) {
		for size := range int64(64) {
			var up, down []int64
			for from := int64(1); from <= int64(len(list))+1; from += size + 1 {
				up = append(up, impl.SliceList(list, from, from+size).List...)
				down = append(down, impl.SliceList(list, from+size, from).List...)
			}
			if !slices.Equal(up, list) || !slices.Equal(down, list) {
				t.Errorf("slices of %d make %v and %v, not %v", size+1, up, down, list)
			}
		}
		for cut := int64(1); cut < 999; cut++ {
			whole := slices.Concat(impl.SliceList(list, 1, cut).List, impl.SliceList(list, cut+1, 999).List)
			if !slices.Equal(whole, list) {
				t.Errorf("slices that are cut behind %d make %v, not %v", cut, whole, list)
			}
		}
	}
	// So it is with what is sorted, too.
	sorted := impl.SortBox(allTerm(), fullBox(21), 1, impl.KeyDate, true).List
	for cut := int64(1); cut <= 7; cut++ {
		first, rest := impl.SliceList(sorted, 1, cut).List, impl.SliceList(sorted, 999, cut+1).List
		askPath(t, fmt.Sprint("cut behind ", cut), impl.IntsResult{List: slices.Concat(first, rest)}, impl.OK, []int64{4, 5, 1, 3, 6, 2})
	}
}
