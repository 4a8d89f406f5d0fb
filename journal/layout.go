package journal

import (
	"bytes"

	"quadrat/api"
	"quadrat/crc"
	"quadrat/octet"
)

// mark is what each record's sector begins with. The length of the payload, the epoch, the number and the payload stand behind it, in this order, and then zeros up to the checksum. The epoch and the number stand at the very end once more: of a sector that is torn, one end is the old one's.
const (
	mark = "QJ\x01"

	lengthSize = 1
	epochSize  = 8
	numberSize = 8
	sumSize    = 4
	headSize   = api.Sector - sumSize - epochSize - numberSize
)

// record is what a sector tells. No record's number is 0, so the zero one stands for what a sector tells that is of no record.
type record struct {
	epoch, number uint64
	payload       []byte
}

// Encode is a record's sector. No write can fail: each number goes into its bytes.
func Encode(epoch, number uint64, payload []byte) ([]byte, api.Errno) {
	if number == 0 || len(payload) > api.MaxPayload {
		return nil, api.ErrJournal
	}
	var w octet.Writer
	w.Raw(crc.Seal(head(epoch, number, payload)))
	w.Num(epochSize, epoch)
	w.Num(numberSize, number)
	return w.Bytes(), api.OK
}

// Decode is the record that a sector is of. It is encoded again to tell, so whatever it would not be encoded with is refused.
func Decode(b []byte) (epoch, number uint64, payload []byte, e api.Errno) {
	if len(b) != api.Sector {
		return 0, 0, nil, api.ErrJournal
	}
	r := candidate(b)
	again, e := Encode(r.epoch, r.number, r.payload)
	if e != api.OK || !bytes.Equal(again, b) {
		return 0, 0, nil, api.ErrJournal
	}
	return r.epoch, r.number, r.payload, api.OK
}

// head is what stands ahead of the checksum in a record's sector.
func head(epoch, number uint64, payload []byte) []byte {
	var w octet.Writer
	w.Raw([]byte(mark))
	w.Num(lengthSize, uint64(len(payload)))
	w.Num(epochSize, epoch)
	w.Num(numberSize, number)
	w.Raw(payload)
	w.Raw(make([]byte, headSize-w.Len()))
	return w.Bytes()
}

// candidate is the only record that a sector can be of. Whether it is, is left open: all but the fields is taken for granted, and of a payload that would be longer than the sector there is nothing.
func candidate(b []byte) record {
	r := octet.Read(b)
	r.Raw(len(mark))
	length, _ := r.Num(lengthSize)
	epoch, _ := r.Num(epochSize)
	number, _ := r.Num(numberSize)
	payload, _ := r.Raw(int(length))
	return record{epoch: epoch, number: number, payload: payload}
}
