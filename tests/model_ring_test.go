package tests

import (
	"fmt"
	"hash/crc32"
	"slices"

	"loop.example/confluence/impl"
)

// farModel is the smallest distance from a key to a name, made without the program.
func farModel(name string, key string) int {
	const around = 4294967296
	from := int(crc32.ChecksumIEEE([]byte("key " + key)))
	far := around
	for k := 0; k < 3; k++ {
		to := int(crc32.ChecksumIEEE([]byte(fmt.Sprintf("%s#%d", name, k))))
		far = min(far, (to-from+around)%around)
	}
	return far
}

// chainOfModel takes the nearest of the names that are left, again and again. The names
// are in ascending order, so of equal ones the smaller name is the first that is found.
func chainOfModel(r impl.Ring, key string, many int) []string {
	left := slices.Clone(r.Names)
	var chain []string
	for len(left) > 0 && len(chain) < many {
		nearest := 0
		for i, name := range left {
			if farModel(name, key) < farModel(left[nearest], key) {
				nearest = i
			}
		}
		chain = append(chain, left[nearest])
		left = slices.Delete(left, nearest, nearest+1)
	}
	return chain
}

func ownerModel(r impl.Ring, key string) string {
	for _, name := range chainOfModel(r, key, 1) {
		return name
	}
	return ""
}

// withName is the ring with that name, whatever the name is.
func withName(r impl.Ring, name string) impl.Ring {
	names := append(slices.Clone(r.Names), name)
	slices.Sort(names)
	return impl.Ring{Names: names}
}

func withoutName(names []string, name string) []string {
	return slices.DeleteFunc(slices.Clone(names), func(s string) bool { return s == name })
}
