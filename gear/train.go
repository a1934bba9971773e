package gear

import "meterworks/api"

// turnsSame reports whether the drum turns the same way as the piston: each mesh turns it round once more.
func turnsSame(pairs, idler int) bool {
	meshes := pairs
	if idler != 0 {
		meshes++
	}
	return meshes%2 == 0
}

func wheelsOf(t api.Train) []int {
	var wheels []int
	for _, p := range t.Pairs {
		wheels = append(wheels, p.Drives, p.Driven)
	}
	if t.Idler != 0 {
		wheels = append(wheels, t.Idler)
	}
	return wheels
}
