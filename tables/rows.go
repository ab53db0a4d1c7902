package tables

// The runs of marks, each with its end, and the marks that stand by themselves.
const (
	above, aboveEnd       = 0x300, 0x314
	aboveRight            = 0x315
	below, belowEnd       = 0x316, 0x319
	horn                  = 0x31B
	farBelow, farBelowEnd = 0x323, 0x326
	hooks, hooksEnd       = 0x327, 0x328
	overlay               = 0x338
	otherGrave            = 0x340
	otherAcute            = 0x341
	underIota             = 0x345
)

// The marks of the table.
const (
	grave      = 0x300
	acute      = 0x301
	circumflex = 0x302
	tilde      = 0x303
	macron     = 0x304
	breve      = 0x306
	diaeresis  = 0x308
	ring       = 0x30A
	caron      = 0x30C
	dotBelow   = 0x323
	cedilla    = 0x327
)

// The least and the greatest whole of all rows, and the least and the greatest first part of the table's.
const (
	leastWhole, greatestWhole   = 0xC0, 0x212B
	leastLetter, greatestLetter = 'A', 0x1EB9
)

// row is a whole and what it is made of, as a pair has them.
type row struct{ Whole, First, Second int }

func (r row) whole() int    { return r.Whole }
func (r row) parts() [2]int { return [2]int{r.First, r.Second} }

// wholes gives the table, mark by mark.
func wholes() []row {
	return []row{
		{0xC0, 'A', grave}, {0xC8, 'E', grave}, {0xCC, 'I', grave}, {0xD2, 'O', grave}, {0xD9, 'U', grave},
		{0xE0, 'a', grave}, {0xE8, 'e', grave}, {0xEC, 'i', grave}, {0xF2, 'o', grave}, {0xF9, 'u', grave},

		{0xC1, 'A', acute}, {0xC9, 'E', acute}, {0xCD, 'I', acute}, {0xD3, 'O', acute}, {0xDA, 'U', acute}, {0xDD, 'Y', acute},
		{0xE1, 'a', acute}, {0xE9, 'e', acute}, {0xED, 'i', acute}, {0xF3, 'o', acute}, {0xFA, 'u', acute}, {0xFD, 'y', acute},
		{0x1EBF, 0xEA, acute}, {0x1D8, 0xFC, acute},

		{0xC2, 'A', circumflex}, {0xCA, 'E', circumflex}, {0xCE, 'I', circumflex}, {0xD4, 'O', circumflex}, {0xDB, 'U', circumflex},
		{0xE2, 'a', circumflex}, {0xEA, 'e', circumflex}, {0xEE, 'i', circumflex}, {0xF4, 'o', circumflex}, {0xFB, 'u', circumflex},
		{0x1EC7, 0x1EB9, circumflex},

		{0xC3, 'A', tilde}, {0xD1, 'N', tilde}, {0xD5, 'O', tilde},
		{0xE3, 'a', tilde}, {0xF1, 'n', tilde}, {0xF5, 'o', tilde},

		{0x1D6, 0xFC, macron},

		{0x419, 0x418, breve}, {0x439, 0x438, breve},

		{0xC4, 'A', diaeresis}, {0xCB, 'E', diaeresis}, {0xCF, 'I', diaeresis}, {0xD6, 'O', diaeresis}, {0xDC, 'U', diaeresis},
		{0xE4, 'a', diaeresis}, {0xEB, 'e', diaeresis}, {0xEF, 'i', diaeresis}, {0xF6, 'o', diaeresis}, {0xFC, 'u', diaeresis},
		{0xFF, 'y', diaeresis}, {0x401, 0x415, diaeresis}, {0x451, 0x435, diaeresis},

		{0xC5, 'A', ring}, {0xE5, 'a', ring},

		{0x10C, 'C', caron}, {0x160, 'S', caron}, {0x17D, 'Z', caron},
		{0x10D, 'c', caron}, {0x161, 's', caron}, {0x17E, 'z', caron},

		{0x1EB9, 'e', dotBelow},

		{0xC7, 'C', cedilla}, {0xE7, 'c', cedilla},
	}
}

// doubles gives the scalars that are another one's doubles.
func doubles() []row {
	return []row{
		{0x212A, 'K', 0}, {0x212B, 0xC5, 0}, {0x2126, 0x3A9, 0}, {otherGrave, grave, 0}, {otherAcute, acute, 0},
	}
}
