package lot

import "meterworks/api"

func isFrom(n, least, most int) bool { return n >= least && n <= most }

func isLot(l api.Lot) bool {
	return isFrom(l.Size, 1, api.MaxLot) && isFrom(l.Bad, 0, l.Size) && isFrom(l.Good, 0, l.Bad-1) &&
		isFrom(l.Maker, 0, api.MaxChances) && isFrom(l.Buyer, 0, api.MaxChances)
}

func isPlan(p api.Plan, size int) bool {
	return isFrom(p.Samples, 0, size) && isFrom(p.Accept, 0, p.Samples)
}

func isDouble(d api.Double, size int) bool {
	return isFrom(size, 1, api.MaxDouble) && isFrom(d.First, 0, size) && isFrom(d.Second, 0, size-d.First) &&
		isFrom(d.Accept, 0, d.First) && isFrom(d.Refuse, d.Accept+1, d.First+1) &&
		isFrom(d.Total, d.Accept, d.First+d.Second)
}
