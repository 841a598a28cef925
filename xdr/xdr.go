// Package xdr is layer 1: see shared/doc/01-xdr.md.
package xdr

// unit is what every value is a multiple of, in bytes.
const unit = 4

// padding is how many zeros stand behind n bytes; n is not below 0.
func padding(n int) int { return -n & (unit - 1) }
