package stream

import "flacpair/api"

const (
	marker     = 0x664c6143 // fLaC
	infoKind   = 0          // the kind of the first block of metadata, and of no other
	infoLength = 34
	wrongKind  = 127

	leastBlock = 16
	leastDepth = 4
	sumLength  = 16
)

// blockHead is what stands ahead of the bytes of a block of metadata.
type blockHead struct {
	last         bool
	kind, length int
}

func (d *Decoder) readHead() {
	d.readMarker()
	last := d.readFirst()
	for !last {
		last = d.passLater()
	}
}

func (d *Decoder) readMarker() {
	check(d.in.read(32) == marker, api.ErrMarker)
	d.whole()
}

// readFirst reads the first block, and tells if it is the last, too.
func (d *Decoder) readFirst() bool {
	head := d.readBlockHead()
	check(head.kind == infoKind && head.length == infoLength, api.ErrMeta)
	d.info = d.readInfo()
	check(isInfo(d.info), api.ErrInfo)
	d.whole()
	return head.last
}

// passLater passes over a later block, and tells if it is the last.
func (d *Decoder) passLater() bool {
	head := d.readBlockHead()
	check(head.kind != infoKind && head.kind != wrongKind, api.ErrMeta)
	d.in.skip(head.length)
	d.whole()
	return head.last
}

func (d *Decoder) readBlockHead() blockHead {
	return blockHead{
		last:   d.in.read(1) == 1,
		kind:   d.in.read(7),
		length: d.in.read(24),
	}
}

func (d *Decoder) readInfo() api.Info {
	return api.Info{
		MinBlock: d.in.read(16),
		MaxBlock: d.in.read(16),
		MinFrame: d.in.read(24),
		MaxFrame: d.in.read(24),
		Rate:     d.in.read(20),
		Channels: d.in.read(3) + 1,
		Depth:    d.in.read(5) + 1,
		Total:    d.in.read(36),
		Sum:      d.in.text(sumLength),
	}
}

// isInfo tells if there is such a stream.
func isInfo(i api.Info) bool {
	sizes := leastBlock <= i.MinBlock && i.MinBlock <= i.MaxBlock && i.MaxBlock <= api.MaxBlock
	return sizes && i.Depth >= leastDepth && i.Rate > 0
}
