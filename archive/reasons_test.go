package archive_test

import (
	"errors"
	"math"
	"strings"
	"testing"

	"stow/archive"
)

func reasons() []error {
	return []error{archive.ErrArg, archive.ErrDown, archive.ErrFormat, archive.ErrCorrupt, archive.ErrPath, archive.ErrNone, archive.ErrKind, archive.ErrAgain, archive.ErrBusy, archive.ErrMany, archive.ErrBig, archive.ErrFull}
}

func TestReasonsHaveTextsAndAreApart(t *testing.T) {
	for i, reason := range reasons() {
		if reason == nil || reason.Error() == "" {
			t.Errorf("Words: reason %d has no text", i)
		}
		for j, other := range reasons() {
			if errors.Is(reason, other) != (i == j) {
				t.Errorf("Words: reason %d is held to be reason %d: %v", i, j, i != j)
			}
		}
	}
}

func TestFaultWrapsItsReason(t *testing.T) {
	for i, reason := range reasons() {
		for _, at := range []int{0, 7, -1, math.MaxInt, math.MinInt} {
			fault := &archive.Fault{At: at, Err: reason}
			if fault.Unwrap() != reason {
				t.Errorf("Words: Unwrap of a Fault of reason %d: %v", i, fault.Unwrap())
			}
			if !strings.Contains(fault.Error(), reason.Error()) {
				t.Errorf("Words: Error of a Fault of reason %d: %q", i, fault.Error())
			}
			var found *archive.Fault
			if !errors.As(error(fault), &found) || found.At != at {
				t.Errorf("Words: a Fault of reason %d at %d is not found", i, at)
			}
			for j, other := range reasons() {
				if errors.Is(fault, other) != (i == j) {
					t.Errorf("Words: a Fault of reason %d is held to be reason %d: %v", i, j, i != j)
				}
			}
		}
	}
}

// rude is an error of another's making that can't even be asked, or held against its like.
type rude struct{ list []int }

func (r rude) Error() string { panic("asked") }

func TestFaultOfNoReasonHasAText(t *testing.T) {
	around := &archive.Fault{At: 1}
	around.Err = around
	var none *archive.Fault
	for i, fault := range []*archive.Fault{{}, {At: 5}, {Err: rude{}}, {Err: &archive.Fault{Err: archive.ErrCorrupt}}, around, none} {
		if fault.Error() == "" {
			t.Errorf("Words: Error of Fault %d is empty", i)
		}
	}
	if (&archive.Fault{At: 5}).Unwrap() != nil || none.Unwrap() != nil {
		t.Error("Words: Unwrap of a Fault without a reason is none")
	}
	if around.Unwrap() != error(around) {
		t.Error("Words: Unwrap is Err")
	}
}
