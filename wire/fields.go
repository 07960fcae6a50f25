package wire

import (
	"math"

	"replica/api"
)

// The places of the numbers among a packet's numbers, in the order in which they are written.
const (
	atId = iota
	atBlock
	atEpoch
	atCount
	atFlags
	places
)

// Bytes that the parts of a packet take.
const (
	commandSize = 1
	numberSize  = 4
	identSize   = 8
	sumSize     = 32
	lengthSize  = 2
)

const (
	bitmapWords = api.MaxBlocks / 64
	maxCode     = 256 // bytes of a bitmap's code in one packet
	maxErrno    = 255
	allFlags    = uint64(api.FlagDiscard)<<1 - 1
)

// field is one of those that a command carries.
type field interface {
	// fits tells whether what the packet has there may stand there.
	fits(p *parts) bool
	// blank takes out of the packet what it has there.
	blank(p *parts)
}

// number is a field of four bytes, by what the number is: one place among a packet's numbers means many things.
type number int

// identifiers is the field Gens.
type identifiers struct{}

// sum is a digest. One that is tied is there only if Flags is 0, and all zeroes else.
type sum struct{ tied bool }

// data is bytes, with their length ahead of them. Those that are tied are there only if Flags is 0.
type data struct {
	low, high uint64
	tied      bool
}

const (
	lowestVersion number = iota
	highestVersion
	blocks
	blockSize
	greetFlags
	marked
	dataFlags
	roleAndDisk
	firstWord
	words
	id
	block
	epoch
	writes
	refusal
	outcome
	yesOrNo
	total
)

// bounds has each number's place, its least and its greatest value (where these tell enough: see may).
var bounds = [...]struct {
	place     int
	low, high uint64
}{
	lowestVersion:  {atId, 0, math.MaxUint32},
	highestVersion: {atCount, 0, math.MaxUint32},
	blocks:         {atBlock, 1, api.MaxBlocks},
	blockSize:      {place: atCount},
	greetFlags:     {atFlags, 0, math.MaxUint32},
	marked:         {atCount, 0, api.MaxBlocks},
	dataFlags:      {atFlags, 0, allFlags},
	roleAndDisk:    {place: atFlags},
	firstWord:      {atBlock, 0, bitmapWords - 1},
	words:          {atCount, 1, api.BitsChunk},
	id:             {atId, 1, math.MaxInt32},
	block:          {atBlock, 0, api.MaxBlocks - 1},
	epoch:          {atEpoch, 1, math.MaxUint32},
	writes:         {atCount, 1, api.MaxEpoch},
	refusal:        {atFlags, 1, maxErrno},
	outcome:        {atFlags, 0, maxErrno},
	yesOrNo:        {atFlags, 0, 1},
	total:          {atCount, 0, math.MaxUint32},
}

// carried is the fields of a command, in the order of their bytes; 0, as which a reader has a command that it could not read, carries none.
func carried(cmd int) []field {
	table := [...][]field{
		api.CmdFeature:       {lowestVersion, highestVersion, greetFlags},
		api.CmdChallenge:     {data{low: api.NonceSize, high: api.NonceSize}},
		api.CmdResponse:      {sum{}},
		api.CmdSizes:         {blocks, blockSize, greetFlags},
		api.CmdIds:           {marked, dataFlags, identifiers{}},
		api.CmdState:         {roleAndDisk},
		api.CmdBits:          {firstWord, words, data{low: 1, high: maxCode}},
		api.CmdData:          {id, block, epoch, data{low: 1, high: api.MaxSize}},
		api.CmdZero:          {id, block, epoch},
		api.CmdRecvAck:       {id, block},
		api.CmdWriteAck:      {id, block},
		api.CmdNegAck:        {id, block, refusal},
		api.CmdBarrier:       {epoch, writes},
		api.CmdBarrierAck:    {epoch, writes},
		api.CmdSumRequest:    {id, block, yesOrNo, sum{tied: true}},
		api.CmdInSync:        {id, block},
		api.CmdSyncData:      {id, block, data{low: 1, high: api.MaxSize}},
		api.CmdSyncAck:       {id, block},
		api.CmdSyncDone:      {total},
		api.CmdVerifyRequest: {id, block, sum{}},
		api.CmdVerifyReply:   {id, block, yesOrNo},
		api.CmdVerifyDone:    {total},
		api.CmdGens:          {identifiers{}},
		api.CmdReadRequest:   {id, block},
		api.CmdReadReply:     {id, block, outcome, data{low: 1, high: api.MaxSize, tied: true}},
	}
	return table[cmd]
}

// may is what the number can be, behind those that stand ahead of it.
func (n number) may(ahead [places]uint32) spans {
	low, high := bounds[n].low, bounds[n].high
	switch n {
	case highestVersion:
		low = uint64(ahead[atId])
	case words:
		high = min(high, bitmapWords-uint64(ahead[atBlock]))
	case blockSize:
		return spans{{128, 128}, {256, 256}, {512, 512}, {1024, 1024}}
	case roleAndDisk:
		return spans{{0, 1}, {4, 5}, {8, 9}}
	}
	return spans{{low, high}}
}

func (n number) fits(p *parts) bool {
	return n.may(p.numbers).have(uint64(p.numbers[bounds[n].place]))
}

func (n number) blank(p *parts) { p.numbers[bounds[n].place] = 0 }

func (identifiers) fits(*parts) bool { return true }

func (identifiers) blank(p *parts) { p.gens = api.Gens{} }

// may is what each byte of the digest can be, behind the numbers ahead of it.
func (s sum) may(ahead [places]uint32) spans {
	if s.tied && ahead[atFlags] != 0 {
		return spans{{0, 0}}
	}
	return spans{{0, math.MaxUint8}}
}

func (s sum) fits(p *parts) bool {
	may := s.may(p.numbers)
	for _, b := range p.sum {
		if !may.have(uint64(b)) {
			return false
		}
	}
	return true
}

func (sum) blank(p *parts) { p.sum = [sumSize]byte{} }

// may is what the length can be, behind the numbers ahead of it.
func (d data) may(ahead [places]uint32) spans {
	if d.tied && ahead[atFlags] != 0 {
		return spans{{0, 0}}
	}
	return spans{{d.low, d.high}}
}

func (d data) fits(p *parts) bool {
	return d.may(p.numbers).have(uint64(len(p.data)))
}

func (data) blank(p *parts) { p.data = nil }
