package attic

import (
	"math"
	"strconv"
	"strings"

	"beadle/api"
	"beadle/disk"
	"beadle/wire"
)

// The files that have a name for good: the paper, the one that is to be the paper next, and the one that is to be the image.
const (
	nowPaper  = "now"
	nextPaper = "next"
	newImage  = "new"
)

// A generation's files begin with these, its number behind.
const (
	journalMark = "g"
	imageMark   = "i"
)

const maxEpoch = 1 << 30

// fileDigits is how many digits a journal's files end with.
const fileDigits = 10

// paper is what an attic is told by when it is opened.
type paper struct {
	generation, boots, accepted, current int
	hasImage                             bool
}

// readPaper is the paper on d; without one an attic has never begun there.
func readPaper(d *disk.Disk) (paper, api.Errno) {
	b, errno := d.Read(nowPaper)
	if errno != api.OK {
		return paper{}, api.OK
	}
	held, size, errno := wire.Unframe(b)
	if errno != api.OK || size != len(b) {
		return paper{}, api.ErrShape
	}
	r := wire.NewReader(held)
	var p paper
	p.generation = r.Count(math.MaxInt)
	// There must be one more.
	p.boots = r.Count(math.MaxInt - 1)
	p.accepted = r.Count(maxEpoch)
	p.current = r.Count(p.accepted)
	p.hasImage = r.Count(1) == 1
	if !r.Whole() {
		return paper{}, api.ErrShape
	}
	return p, api.OK
}

// bytes are the paper's file.
func (p paper) bytes() []byte {
	image := 0
	if p.hasImage {
		image = 1
	}
	w := wire.NewWriter()
	for _, n := range [...]int{p.generation, p.boots, p.accepted, p.current, image} {
		w.Int(int64(n))
	}
	// Five numbers are far from being too long for a frame.
	b, _ := wire.Frame(w.Done())
	return b
}

// follows tells whether p's epochs may be set where those of before were.
func (p paper) follows(before paper) bool {
	return p.current >= before.current && p.current <= p.accepted && p.accepted >= before.accepted && p.accepted <= maxEpoch
}

// journalName is the generation's journal's: one has letters alone.
func (p paper) journalName() string {
	number := []byte(strconv.Itoa(p.generation))
	for i := range number {
		number[i] += 'a' - '0'
	}
	return journalMark + string(number)
}

// imageName is that of the generation's image, if it has one.
func (p paper) imageName() string {
	return imageMark + strconv.Itoa(p.generation)
}

// leavesOver tells whether a file of that name is none that an attic with this paper needs, but one that some attic has written.
func (p paper) leavesOver(name string) bool {
	if number, ok := strings.CutPrefix(name, imageMark); ok && isNumber(number, '0') {
		return !p.hasImage || name != p.imageName()
	}
	if journalName, ok := journalOf(name); ok {
		return journalName != p.journalName()
	}
	return name == nextPaper || name == newImage
}

// journalOf is the name of the journal of some generation whose file is named so, and whether there is one.
func journalOf(name string) (string, bool) {
	journalName, digits, _ := strings.Cut(name, ".")
	number, ok := strings.CutPrefix(journalName, journalMark)
	if !ok || !isNumber(number, 'a') || len(digits) != fileDigits || !areDigits(digits, '0') {
		return "", false
	}
	return journalName, true
}

// isNumber tells whether text is a number whose digits are nought and those behind it, without noughts ahead.
func isNumber(text string, nought byte) bool {
	return areDigits(text, nought) && len(text) > 0 && (len(text) == 1 || text[0] != nought)
}

func areDigits(text string, nought byte) bool {
	for i := range len(text) {
		if text[i] < nought || text[i] > nought+9 {
			return false
		}
	}
	return true
}
