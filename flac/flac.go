// Package flac: bits, sums and streams out of any source: see DOC.md.
package flac

import (
	"flacpair/api"
	"flacpair/bitread"
	"flacpair/stream"
	"flacpair/sums"
)

// Sums tells the CRC-8, the CRC-16 and the MD5 of a text (P3).
func Sums(s string, kind int, n int) (byte, uint16, string, error) {
	if !isKind(kind) || n < 1 {
		return 0, 0, "", wrongArgument()
	}
	crc := sums.NewCRC(kind)
	md5 := sums.NewMD5()
	sum8, sum16 := uint8(0), uint16(0)
	for s != "" {
		size := min(n, len(s))
		piece := []byte(s[:size])
		s = s[size:]
		sum8 = crc.Add8(sum8, piece)
		sum16 = crc.Add16(sum16, piece)
		md5.Add(piece)
	}
	return sum8, sum16, md5.Sum(), nil
}

// Bits makes a reader of bits (P5).
func Bits(src api.Source, kind int) (api.Bits, error) {
	if !isKind(kind) || src == nil {
		return nil, wrongArgument()
	}
	return bitread.New(src, kind), nil
}

// Open makes a decoder, which has read the stream's head (P6).
func Open(src api.Source, kind int) (api.Decoder, error) {
	if !isKind(kind) || src == nil {
		return nil, wrongArgument()
	}
	d, err := stream.Open(src, kind)
	if err != nil {
		return nil, err
	}
	return d, nil
}

func isKind(kind int) bool { return kind == api.Slow || kind == api.Fast }

func wrongArgument() error {
	return &api.Error{Place: api.Place{Frame: -1}, Err: api.ErrArg}
}
