package kem

import "livery/api"

// Errors are raised, and turned into results where the exported functions recover: most of them come up inside of expressions.

// demand raises e unless ok is true.
func demand(ok bool, e api.Errno) {
	if !ok {
		panic(e)
	}
}

// sure returns v, or raises e.
func sure[T any](v T, e api.Errno) T {
	demand(e == api.OK, e)
	return v
}

// raised returns the error that was recovered, or OK. Nothing but errors is raised in this package.
func raised(recovered any) api.Errno {
	if recovered == nil {
		return api.OK
	}
	return recovered.(api.Errno)
}
