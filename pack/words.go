package pack

import (
	"math"

	"hayloft/api"
	"hayloft/bundle"
)

// Where the fields of an operation's word stand that tell a turn (chapter 19).
const (
	kindMask = 1<<6 - 1
	immShift = 6 + 5 + 5 + 5
	immMask  = math.MaxUint32 << immShift
)

// spot is a bundle of a block.
type spot struct{ block, bundle int }

// joined answers the words and the tags of all blocks, one behind the other.
func joined(blocks []laid, t api.Table) api.Packed {
	places := placesOf(blocks)
	var k api.Packed
	for block, l := range blocks {
		words, _ := bundle.Encode(l.bundles, t) // layout's bundles are well formed
		turnToPlaces(words, block, places)
		k.Words = append(k.Words, words...)
		k.Tags = append(k.Tags, l.tags...)
		k.Begins = append(k.Begins, places[spot{block: block}])
	}
	return k
}

// placesOf answers which number each bundle has among those of all blocks.
func placesOf(blocks []laid) map[spot]int {
	places := map[spot]int{}
	for block, l := range blocks {
		for n := range l.bundles {
			places[spot{block, n}] = len(places)
		}
	}
	return places
}

// turnToPlaces lets the turns in the words of a block go to places.
func turnToPlaces(words []uint64, block int, places map[spot]int) {
	for n, word := range words {
		if turns(word) {
			place := places[target(word, block)]
			words[n] = word&^immMask | uint64(place)<<immShift
		}
	}
}

// turns answers whether it is the word of a turn.
func turns(word uint64) bool {
	switch word & kindMask {
	case api.Jump, api.Branch, api.Short, api.Again:
		return true
	}
	return false
}

// target answers the bundle to which a turn of a block goes as layout tells it: below 0 it is one
// of the block's own, else the first of another one.
func target(word uint64, block int) spot {
	imm := int(int32(word >> immShift))
	if imm < 0 {
		return spot{block, -1 - imm}
	}
	return spot{block: imm}
}
