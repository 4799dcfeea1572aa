// Package ground tests what all packages stand on: the terms and constants of package api, and the language of the program.
package ground

import (
	"reflect"
	"testing"

	"printworks/api"
)

// P3: the error codes.
func TestErrorCodes(t *testing.T) {
	codes := []api.Errno{
		api.OK, api.ErrArg, api.ErrLarge, api.ErrRange, api.ErrForm, api.ErrSyntax, api.ErrName, api.ErrTwice, api.ErrNone, api.ErrState, api.ErrOver,
		api.ErrSum, api.ErrShort, api.ErrCycle, api.ErrKind, api.ErrDeep, api.ErrFull, api.ErrFuel, api.ErrOrder, api.ErrFit, api.ErrRefused, api.ErrLost,
	}
	for i, code := range codes {
		if int(code) != i {
			t.Errorf("error code %d is %d", i, code)
		}
	}
	var none api.Errno
	if none != api.OK || len(codes) != 22 {
		t.Error(none, len(codes))
	}
}

// P4, P6 and P7: the limits of cells, names and inks, and those of the section Constants.
func TestLimits(t *testing.T) {
	for _, c := range []struct {
		name      string
		got, want int
	}{
		{"CellsPerPixel", api.CellsPerPixel, 16}, {"MaxPage", api.MaxPage, 256}, {"MaxSheet", api.MaxSheet, 1024}, {"MaxInks", api.MaxInks, 8},
		{"MaxCoord", api.MaxCoord, 32767}, {"MaxCell", api.MaxCell, 8192}, {"MaxSegs", api.MaxSegs, 1000}, {"MaxItems", api.MaxItems, 5000},
		{"MaxDepth", api.MaxDepth, 16}, {"MaxPieces", api.MaxPieces, 4096}, {"MaxWidth", api.MaxWidth, 1024}, {"MaxSpread", api.MaxSpread, 64},
		{"MaxStops", api.MaxStops, 16}, {"MaxImage", api.MaxImage, 256}, {"MaxName", api.MaxName, 16}, {"MaxNum", api.MaxNum, 1099511627776},
	} {
		if c.got != c.want {
			t.Errorf("%s is %d instead of %d", c.name, c.got, c.want)
		}
	}
	if api.MaxPage*api.CellsPerPixel > api.MaxCell {
		t.Error("the cells of the largest page are not permitted cells")
	}
}

// P4: points and runs have whole coordinates of 64 bits.
func TestCoordinates(t *testing.T) {
	for _, value := range []any{api.Point{}, api.Run{}} {
		for field := range reflect.TypeOf(value).Fields() {
			if field.Type.Kind() != reflect.Int || field.Type.Bits() != 64 {
				t.Errorf("%T.%s is a %s", value, field.Name, field.Type)
			}
		}
	}
}

// P7: an ink vector has MaxInks amounts from 0 to 255, and paper has none of them; a plate has one amount for each pixel.
func TestInksAndPlates(t *testing.T) {
	inks := reflect.TypeFor[api.Inks]()
	if inks.Kind() != reflect.Array || inks.Len() != 8 || inks.Elem().Kind() != reflect.Uint8 {
		t.Error(inks)
	}
	var paper api.Inks
	for i, amount := range paper {
		if amount != 0 {
			t.Error(i, amount)
		}
	}
	plate := reflect.TypeFor[api.Plate]()
	if pix, ok := plate.FieldByName("Pix"); !ok || pix.Type != reflect.TypeFor[[]uint8]() {
		t.Error(plate)
	}
}
