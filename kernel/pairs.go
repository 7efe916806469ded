package kernel

// pair makes left and right of two channels, in place.
type pair func(first, second []int)

// LeftAndSide makes left and right of left and side, in place, and tells if all of their samples fit Depth.
func LeftAndSide(left, side []int, depth int) bool {
	return unpair(sideToRight[int32], sideToRight[int64], left, side, depth)
}

// SideAndRight makes left and right of side and right, in place, and tells if all of their samples fit Depth.
func SideAndRight(side, right []int, depth int) bool {
	return unpair(sideToLeft[int32], sideToLeft[int64], side, right, depth)
}

// MiddleAndSide makes left and right of middle and side, in place, and tells if all of their samples fit Depth.
func MiddleAndSide(middle, side []int, depth int) bool {
	return unpair(middleToBoth[int32], middleToBoth[int64], middle, side, depth)
}

// unpair takes the narrow way where it will do: the side has a bit more than Depth, twice the middle, too, and a sum of these one more.
func unpair(narrow, wide pair, first, second []int, depth int) bool {
	if isNarrow(span(depth + 2)) {
		narrow(first, second)
	} else {
		wide(first, second)
	}
	return fit(first, depth) && fit(second, depth)
}

func sideToRight[N number](left, side []int) {
	for i, l := range left {
		side[i] = int(N(l) - N(side[i]))
	}
}

func sideToLeft[N number](side, right []int) {
	for i, r := range right {
		side[i] = int(N(r) + N(side[i]))
	}
}

func middleToBoth[N number](middle, side []int) {
	for i := range middle {
		s := N(side[i])
		m := 2*N(middle[i]) + s&1
		middle[i] = int((m + s) >> 1)
		side[i] = int((m - s) >> 1)
	}
}
