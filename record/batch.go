package record

import (
	"slices"

	"exchequer/api"
)

// AccountsBytes tells a batch's bytes; ReadAccounts the batch of bytes.
func AccountsBytes(l []api.Account) ([]byte, api.Errno) { return batchBytes(l, AccountBytes) }

func ReadAccounts(b []byte) ([]api.Account, api.Errno) { return readBatch(b, accountOf) }

// TransfersBytes tells a batch's bytes; ReadTransfers the batch of bytes.
func TransfersBytes(l []api.Transfer) ([]byte, api.Errno) { return batchBytes(l, TransferBytes) }

func ReadTransfers(b []byte) ([]api.Transfer, api.Errno) { return readBatch(b, transferOf) }

// batchBytes lays the bytes of records, each as one tells them, behind one another.
func batchBytes[R any](l []R, one func(R) []byte) ([]byte, api.Errno) {
	if len(l) > api.MaxBatch {
		return nil, api.ErrLong
	}
	b := make([]byte, 0, len(l)*api.RecordSize)
	for _, r := range l {
		b = append(b, one(r)...)
	}
	return b, api.OK
}

// readBatch cuts bytes into those of records, and reads each as one does.
func readBatch[R any](b []byte, one func([]byte) R) ([]R, api.Errno) {
	if len(b)%api.RecordSize != 0 {
		return nil, api.ErrBytes
	}
	count := len(b) / api.RecordSize
	if count > api.MaxBatch {
		return nil, api.ErrLong
	}
	l := make([]R, 0, count)
	for piece := range slices.Chunk(b, api.RecordSize) {
		l = append(l, one(piece))
	}
	return l, api.OK
}
