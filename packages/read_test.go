package packages

import (
	"errors"
	"reflect"
	"testing"

	"parcels/api"
)

func TestReadTakesApart(t *testing.T) {
	got, err := Read("package lib-x 2~rc1\nneeds a (>= 1.0) | b, c\nbars d (<< 2), e\nfile z/b=two words\nfile bin/x=\n")
	want := Package{
		Name:    "lib-x",
		Version: "2~rc1",
		Needs:   []Group{{{"a", ">=", "1.0"}, {Name: "b"}}, {{Name: "c"}}},
		Bars:    []Choice{{"d", "<<", "2"}, {Name: "e"}},
		Files:   []File{{"bin/x", ""}, {"z/b", "two words"}},
	}
	if err != nil || !reflect.DeepEqual(got, want) {
		t.Errorf("P4: Read = %v, %v, want %v", got, err, want)
	}
}

// A text that goes wrong late leaves nothing behind of what was right ahead of it.
func TestReadWrongIsEmpty(t *testing.T) {
	got, err := Read("package a 1\nneeds b\nfile x=1\nfile x=2")
	if !reflect.DeepEqual(got, Package{}) {
		t.Errorf("P1: Read = %v beside an error", got)
	}
	var f *api.Fault
	if !errors.As(err, &f) || *f != (api.Fault{Kind: api.ErrForm, Line: 4}) || !errors.Is(err, api.ErrForm) {
		t.Errorf("P4: Read = %v, want ErrForm, line 4", err)
	}
}

func TestClash(t *testing.T) {
	for _, c := range []struct {
		a, b string
		want bool
	}{
		{"x", "x", true},
		{"x", "x/y", true},
		{"x", "x/y/z", true},
		{"x/y", "x/y/z", true},
		{"x", "xy", false},
		{"x", "x.y/z", false},
		{"x/y", "x/z", false},
		{"y", "x/y", false},
		{"x/y", "x/yz", false},
	} {
		if clash(c.a, c.b) != c.want || clash(c.b, c.a) != c.want {
			t.Errorf("P4: %q and %q clash: want %v", c.a, c.b, c.want)
		}
	}
}
