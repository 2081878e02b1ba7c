package impl

import "bytes"

const OK = 0
const ErrForm = 1
const ErrMany = 2
const ErrRange = 3
const ErrNone = 4
const ErrText = 5
const ErrSum = 6
const ErrTaken = 7
const ErrBusy = 8
const ErrConflict = 9
const ErrState = 10
const MaxKey = 31
const MaxValue = 9999
const PageBytes = 48
const MaxCells = 12

const maxPageId = 7
const maxLsn = 1000000
const sumWidth = 2

type Cell struct {
	Key   int64
	Value int64
}
type Page struct {
	Id    int64
	Lsn   int64
	Cells []Cell
}
type PageResult struct {
	Code int64
	Page Page
}
type BytesResult struct {
	Code  int64
	Bytes []byte
}
type IntResult struct {
	Code  int64
	Value int64
}
type IntsResult struct {
	Code int64
	List []int64
}
type TextResult struct {
	Code int64
	Text string
}

// byteRow is embedded by whatever makes packed bytes, so that numbers are written
// in one and the same way everywhere.
type byteRow []byte

func (b *byteRow) putNumber(number int64, width int) {
	bits := uint64(number)
	for shift := 8 * (width - 1); shift >= 0; shift -= 8 {
		*b = append(*b, byte(bits>>shift))
	}
}

func (b *byteRow) fillTo(size int) {
	for len(*b) < size {
		*b = append(*b, 0)
	}
}

func (b *byteRow) putSum() {
	b.putNumber(SumBytes(*b), sumWidth)
}

type pageMaker struct {
	byteRow
}

func (m *pageMaker) putPage(p Page) {
	m.putNumber(p.Id, 1)
	m.putNumber(p.Lsn, 4)
	m.putNumber(int64(len(p.Cells)), 1)
	for _, c := range p.Cells {
		m.putNumber(c.Key, 1)
		m.putNumber(c.Value, 2)
	}
	m.fillTo(PageBytes - sumWidth)
	m.putSum()
}

func within(number int64, low int64, high int64) bool {
	return low <= number && number <= high
}

func isKey(key int64) bool {
	return within(key, 0, MaxKey)
}

func isValue(value int64) bool {
	return within(value, 0, MaxValue)
}

func isLsn(lsn int64) bool {
	return within(lsn, 0, maxLsn)
}

// PageFault answers the first fault of a page, or 0.
func PageFault(p Page) int64 {
	if !within(p.Id, 0, maxPageId) || !isLsn(p.Lsn) {
		return ErrRange
	}
	if len(p.Cells) > MaxCells {
		return ErrMany
	}
	return cellsFault(p.Cells)
}

func cellsFault(cells []Cell) int64 {
	for i, c := range cells {
		if !isKey(c.Key) || !isValue(c.Value) {
			return ErrRange
		}
		if i > 0 && c.Key <= cells[i-1].Key {
			return ErrForm
		}
	}
	return OK
}

// NewPage answers the page of id that has no cells.
func NewPage(id int64) PageResult {
	if !within(id, 0, maxPageId) {
		return PageResult{Code: ErrRange}
	}
	return PageResult{Page: Page{Id: id}}
}

// SetCell answers the page with value as what key has.
func SetCell(p Page, key int64, value int64, lsn int64) PageResult {
	if code := PageFault(p); code != OK {
		return PageResult{Code: code}
	}
	if !isKey(key) || !isValue(value) || !isLsn(lsn) {
		return PageResult{Code: ErrRange}
	}
	if len(p.Cells) == MaxCells && !hasCell(p.Cells, key) {
		return PageResult{Code: ErrMany}
	}
	cells := withCell(p.Cells, Cell{Key: key, Value: value})
	return PageResult{Page: Page{Id: p.Id, Lsn: lsn, Cells: cells}}
}

// DropCell answers the page without the cell of key.
func DropCell(p Page, key int64, lsn int64) PageResult {
	if code := PageFault(p); code != OK {
		return PageResult{Code: code}
	}
	if !isKey(key) || !isLsn(lsn) {
		return PageResult{Code: ErrRange}
	}
	if !hasCell(p.Cells, key) {
		return PageResult{Code: ErrNone}
	}
	return PageResult{Page: Page{Id: p.Id, Lsn: lsn, Cells: withoutCell(p.Cells, key)}}
}

// CellOf answers the value that key has in the page.
func CellOf(p Page, key int64) IntResult {
	if code := PageFault(p); code != OK {
		return IntResult{Code: code}
	}
	return valueOf(p.Cells, key)
}

// placeOfKey answers where key stands in rising cells, or would have to be put.
func placeOfKey(cells []Cell, key int64) int {
	place := 0
	for place < len(cells) && cells[place].Key < key {
		place++
	}
	return place
}

func hasCell(cells []Cell, key int64) bool {
	place := placeOfKey(cells, key)
	return place < len(cells) && cells[place].Key == key
}

// valueOf answers what key has in rising cells.
func valueOf(cells []Cell, key int64) IntResult {
	if !hasCell(cells, key) {
		return IntResult{Code: ErrNone}
	}
	return IntResult{Value: cells[placeOfKey(cells, key)].Value}
}

// withCell begins with no memory at all: what it answers must not grow into the
// spare room behind the cells that it was given.
func withCell(cells []Cell, cell Cell) []Cell {
	place := placeOfKey(cells, cell.Key)
	var out []Cell
	out = append(out, cells[:place]...)
	out = append(out, cell)
	if hasCell(cells, cell.Key) {
		place++
	}
	return append(out, cells[place:]...)
}

func withoutCell(cells []Cell, key int64) []Cell {
	var out []Cell
	for _, c := range cells {
		if c.Key != key {
			out = append(out, c)
		}
	}
	return out
}

// PackPage answers the bytes of the page.
func PackPage(p Page) BytesResult {
	if code := PageFault(p); code != OK {
		return BytesResult{Code: code}
	}
	var maker pageMaker
	maker.putPage(p)
	return BytesResult{Bytes: maker.byteRow}
}

// UnpackPage answers the page whose PackPage data is.
func UnpackPage(data []byte) PageResult {
	if len(data) != PageBytes {
		return PageResult{Code: ErrForm}
	}
	whole := PageBytes - sumWidth
	if readNumber(data[whole:]) != SumBytes(data[:whole]) {
		return PageResult{Code: ErrSum}
	}
	page := readPage(data)
	// Packing it again finds all that no page would have written: bytes behind
	// the cells, counts, orders and bounds.
	again := PackPage(page)
	if again.Code != OK || !bytes.Equal(again.Bytes, data) {
		return PageResult{Code: ErrText}
	}
	return PageResult{Page: page}
}

func readNumber(data []byte) int64 {
	bits := uint64(0)
	for _, b := range data {
		bits = bits<<8 | uint64(b)
	}
	return int64(bits)
}

// readPage reads no more cells than there is room for; a count above that is not
// what packing the page again would write.
func readPage(data []byte) Page {
	page := Page{Id: readNumber(data[:1]), Lsn: readNumber(data[1:5])}
	count := min(readNumber(data[5:6]), MaxCells)
	rest := data[6:]
	for range count {
		cell := Cell{Key: readNumber(rest[:1]), Value: readNumber(rest[1:3])}
		page.Cells = append(page.Cells, cell)
		rest = rest[3:]
	}
	return page
}

// SumBytes answers the sum that tells whether bytes are whole.
func SumBytes(data []byte) int64 {
	sum := int64(9)
	for _, b := range data {
		sum = (sum*269 + int64(b) + 1) % 65521
	}
	return sum
}
