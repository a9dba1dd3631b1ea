package lz

import "pollard/api"

// backsOf is for each place of a text how far back the last place is at which the same four bytes stand; 0, if it is farther than Far, or there is none. (It hangs on the text alone, not on what is told as repetitions.)
func backsOf(s string) []int32 {
	backs := make([]int32, len(s))
	places := sortedPlaces(s)
	for i := 1; i < len(places); i++ {
		from, to := places[i-1], places[i]
		if to-from <= api.Far && fourAt(s, from) == fourAt(s, to) {
			backs[to] = to - from
		}
	}
	return backs
}

// sortedPlaces is all places at which four bytes stand, sorted by these, and where they are the same by place, so that the last place ahead with the same ones is the neighbour. It sorts byte by byte, since its time then hangs on the length alone.
func sortedPlaces(s string) []int32 {
	places := make([]int32, max(len(s)-api.LeastSame+1, 0))
	for i := range places {
		places[i] = int32(i)
	}
	sorted := make([]int32, len(places))
	for at := api.LeastSame - 1; at >= 0; at-- {
		sortByByte(sorted, places, s, int32(at))
		places, sorted = sorted, places
	}
	return places
}

// sortByByte puts places in order of the bytes that stand so far behind them; those of one byte stay in the order in which they come.
func sortByByte(sorted, places []int32, s string, behind int32) {
	var begin [257]int32
	for _, place := range places {
		begin[int(s[place+behind])+1]++
	}
	for i := 1; i < len(begin); i++ {
		begin[i] += begin[i-1]
	}
	for _, place := range places {
		b := s[place+behind]
		sorted[begin[b]] = place
		begin[b]++
	}
}

func fourAt(s string, place int32) string {
	return s[place : place+api.LeastSame]
}
