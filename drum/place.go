package drum

import "meterworks/api"

// Places and totals are counted in thousandths of a figure.
const (
	figureSize = 1000
	roundSize  = 10 * figureSize
	lastPlace  = 9 * figureSize // beyond it a drum takes the next one with it
)

// drum is a drum, by its place.
type drum int

func (d drum) place() int { return int(d) }

func (d drum) carry() int { return max(0, int(d)-lastPlace) }

// figure returns the figure that stands nearest, half-way between two the greater one, or 0 after 9.
func (d drum) figure() int { return (int(d) + figureSize/2) / figureSize % 10 }

// drumsAt returns all drums that a register can have; those that it lacks stand as they would.
func drumsAt(total int) [api.MaxDrums]drum {
	var drums [api.MaxDrums]drum
	drums[0] = drum(total % roundSize)
	size := figureSize
	for k := 1; k < len(drums); k++ {
		size *= 10
		digit := total / size % 10
		drums[k] = drum(digit*figureSize + drums[k-1].carry())
	}
	return drums
}

// tell returns what is asked of each of the first drums.
func tell(drums [api.MaxDrums]drum, count int, asked func(drum) int) []int {
	var told []int
	for _, d := range drums[:count] {
		told = append(told, asked(d))
	}
	return told
}
