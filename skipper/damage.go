package skipper

import (
	"errors"
	"strconv"

	"skipper/api"
)

// badBlock wraps the damage that is promised, so that what it tells can say
// more than that: the damage itself has room for nothing but the plain reason.
type badBlock struct {
	damage *api.Damage
	found  error
}

// Error tells the block, and what was found in it.
func (b *badBlock) Error() string {
	return b.damage.Error() + ", number " + strconv.Itoa(b.damage.Block) + ": " + b.found.Error()
}

// Unwrap tells the damage.
func (b *badBlock) Unwrap() error { return b.damage }

// damaged tells that block n is bad because of what was found in it.
func damaged(n int, found error) error {
	why := api.ErrToken
	if errors.Is(found, api.ErrSum) {
		why = api.ErrSum
	}
	return &badBlock{damage: &api.Damage{Block: n, Err: why}, found: found}
}

// damagedBlock finds the number of the block that an error tells as bad.
func damagedBlock(err error) (n int, ok bool) {
	var d *api.Damage
	if !errors.As(err, &d) {
		return 0, false
	}
	return d.Block, true
}
