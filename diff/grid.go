package diff

import (
	"typecase/api"
	"typecase/val"
)

// move: what a way from list to list does with their elements.
type move int

const (
	becomes move = iota
	goes
	comes
)

// cell of a grid: the least cost of a way that far, and the last move of one that costs no more.
type cell struct {
	cost int
	last move
}

// grid of two lists: cell [i][k] is that of the ways from the first i elements of one to the first k of the other.
type grid [][]cell

func newGrid(a, b []api.Value) grid {
	g := make(grid, len(a)+1)
	for i := range g {
		g[i] = make([]cell, len(b)+1)
	}
	// Each cell hangs on those ahead of it, and the first one is that of no move.
	for i, v := range a {
		g[i+1][0] = cell{g[i][0].cost + val.Nodes(v), goes}
	}
	for k, v := range b {
		g[0][k+1] = cell{g[0][k].cost + val.Nodes(v), comes}
	}
	for i := range a {
		for k := range b {
			g[i+1][k+1] = g.cheapest(i, k, far(a[i], b[k]))
		}
	}
	return g
}

// cheapest way on over elements i and k, which are so far apart. Where it costs the same, one element becomes the other: to set it is one update, to drop it and to add the other are two.
func (g grid) cheapest(i, k, apart int) cell {
	c := cell{g[i][k].cost + apart, becomes}
	// What one element costs by itself stands at the grid's edge.
	if cost := g[i][k+1].cost + g[i+1][0].cost - g[i][0].cost; cost < c.cost {
		c = cell{cost, goes}
	}
	if cost := g[i+1][k].cost + g[0][k+1].cost - g[0][k].cost; cost < c.cost {
		c = cell{cost, comes}
	}
	return c
}

// least cost of a way from all of one list to all of the other.
func (g grid) least() int {
	row := g[len(g)-1]
	return row[len(row)-1].cost
}
