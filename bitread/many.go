package bitread

import "math/bits"

// Numbers reads numbers of n bits with their signs, at most 57, as many as stand whole in what has come, and tells how many. It asks the source for nothing: who wants more reads the next one by itself.
func (f *Fast) Numbers(out []int, n int) int {
	if n == 0 {
		clear(out)
		return len(out)
	}
	pool, held, at := f.pool, f.held, f.at
	done := 0
	for done < len(out) {
		if n > held {
			pool, held = f.filled(pool, held, (at+held)/8)
			if n > held {
				break
			}
		}
		out[done] = int(int64(pool) >> (64 - n))
		done++
		pool <<= n
		held -= n
		at += n
	}
	f.pool, f.held, f.at = pool, held, at
	return done
}

// Codes reads numbers v, each coded as v >> n noughts, a one and the last n bits of v, at most 31, as Numbers does. It also stops ahead of a v of limit or more. A v that is even is told as v / 2, else as -(v + 1) / 2.
func (f *Fast) Codes(out []int, n int, limit uint64) int {
	pool, held, at := f.pool, f.held, f.at
	done := 0
	for done < len(out) {
		q := bits.LeadingZeros64(pool)
		if q+n >= held {
			pool, held = f.filled(pool, held, (at+held)/8)
			q = bits.LeadingZeros64(pool)
			if q+n >= held {
				break
			}
		}
		v := uint64(q)<<n | pool<<(q+1)>>(64-n)
		if v >= limit {
			break
		}
		out[done] = int(v>>1) ^ -int(v&1)
		done++
		pool <<= q + 1 + n
		held -= q + 1 + n
		at += q + 1 + n
	}
	f.pool, f.held, f.at = pool, held, at
	return done
}
