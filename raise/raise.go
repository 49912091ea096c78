// Package raise is for layers where most errors come up inside of expressions: they are raised by a panic, and turned into results where the exported functions recover.
package raise

import "livery/api"

// Unless raises e unless ok is true.
func Unless(ok bool, e api.Errno) {
	if !ok {
		panic(e)
	}
}

// Sure returns v, or raises e.
func Sure[T any](v T, e api.Errno) T {
	Unless(e == api.OK, e)
	return v
}

// Error returns the error that was recovered, or OK. It is for layers in which nothing but errors is raised.
func Error(recovered any) api.Errno {
	if recovered == nil {
		return api.OK
	}
	return recovered.(api.Errno)
}
