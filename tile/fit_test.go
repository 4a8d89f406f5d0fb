package tile_test

import (
	"math"
	"testing"

	"quadrat/tile"
)

func TestFit(t *testing.T) {
	for _, c := range []struct{ sectors, fit int }{
		{0, 0}, {1, 13}, {2, 29}, {3, 45}, {63, 1005}, {64, 1021}, {65, 0},
	} {
		if got := tile.Fit(c.sectors); got != c.fit {
			t.Errorf("Fit(%d) is %d, want %d", c.sectors, got, c.fit)
		}
	}
	for sectors := 1; sectors <= 64; sectors++ {
		if got := tile.Fit(sectors); got != most(sectors) {
			t.Errorf("Fit(%d) is %d, want %d", sectors, got, most(sectors))
		}
	}
}

// strange are numbers of sectors that no tile has; some of them have as many bytes as one of few sectors, if the product wraps round.
func strange() []int {
	l := []int{0, -1, -2, -63, -64, -65, 65, 66, 100, 128, 256, 4096, math.MaxInt, math.MaxInt - 1, math.MinInt, math.MinInt + 1}
	for few := 0; few <= 65; few++ {
		for bit := 8; bit < 63; bit++ {
			l = append(l, 1<<bit+few, -1<<bit+few)
		}
		l = append(l, math.MinInt+few, math.MaxInt-few)
	}
	return l
}

func TestFitOfSectorsThatNoTileHas(t *testing.T) {
	for _, sectors := range strange() {
		if got := tile.Fit(sectors); got != 0 {
			t.Errorf("Fit(%d) is %d", sectors, got)
		}
	}
}
