package word

// The bits of a word, from the lowest one on.
const (
	sealBit = iota
	emptyBit
	scalarBit
	numberBit // here the number begins that a word holds
)

// bits is a word as it stands in an arena.
type bits uint64

func (b bits) sealed() bool { return b&(1<<sealBit) != 0 }

func (b bits) seal() bits { return b | 1<<sealBit }

func (b bits) plain() bits { return b &^ (1 << sealBit) }

func (b bits) number() int64 { return int64(b >> numberBit) }
