package dump

import (
	"strconv"
	"strings"

	"replica/api"
	"replica/bitmap"
)

// The first words of the parts, and other words and marks of the text.
const (
	formPart   = "replica-meta"
	formNumber = "1"
	seqPart    = "seq"
	devicePart = "device"
	gensPart   = "gens"
	flagsPart  = "flags"
	markPart   = "mark"
	slotsPart  = "slots"
	bitsPart   = "bits"

	freeSlot = "-"
	between  = "-" // the two numbers of a run
	stop     = ";"
)

const (
	decimal     = 10
	hexadecimal = 16
	idDigits    = 16
)

// flagWords: in the order in which they may stand, which is that of the flags' numbers.
var flagWords = [...]struct {
	word string
	flag uint32
}{
	{"consistent", api.FlagConsistent},
	{"outdated", api.FlagOutdated},
	{"primary", api.FlagPrimary},
	{"crashed", api.FlagCrashed},
}

// textOf writes m, which is valid.
func textOf(m api.Dump) string {
	s := m.Super
	lines := []string{
		line(formPart, formNumber),
		line(seqPart, strconv.FormatUint(s.Seq, decimal)),
		line(devicePart, strconv.Itoa(s.Blocks), strconv.Itoa(s.Size), strconv.Itoa(s.Slots)),
		line(gensPart, idText(s.Gens.Current), idText(s.Gens.Bitmap), idText(s.Gens.Old1), idText(s.Gens.Old2)),
		line(flagsPart, flagTexts(s.Flags)...),
		line(markPart, strconv.Itoa(s.Mark)),
		line(slotsPart, slotTexts(m.Slots)...),
		line(bitsPart, runTexts(s.Blocks, m.Bits)...),
	}
	return strings.Join(lines, "")
}

func line(first string, words ...string) string {
	return strings.Join(append([]string{first}, words...), " ") + stop + "\n"
}

func idText(id uint64) string {
	digits := strconv.FormatUint(id, hexadecimal)
	return strings.Repeat("0", idDigits-len(digits)) + digits
}

func flagTexts(flags uint32) []string {
	var texts []string
	for _, known := range flagWords {
		if flags&known.flag != 0 {
			texts = append(texts, known.word)
		}
	}
	return texts
}

func slotTexts(row []int) []string {
	texts := make([]string, len(row))
	for slot, extent := range row {
		texts[slot] = freeSlot
		if extent != noExtent {
			texts[slot] = strconv.Itoa(extent)
		}
	}
	return texts
}

func runTexts(blocks int, words []uint64) []string {
	marks, _ := bitmap.From(blocks, words)
	var texts []string
	for first, count := range marks.Runs() {
		text := strconv.Itoa(first)
		if count > 1 {
			text += between + strconv.Itoa(first+count-1)
		}
		texts = append(texts, text)
	}
	return texts
}
