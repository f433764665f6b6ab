package tests

import (
	"bytes"
	"testing"

	"loop.example/s0039/impl"
)

// Chapter 2.2, which P5 stands on: the checksums of which the values are known.
func TestChecksumOfKnownBytes(t *testing.T) {
	cases := []struct {
		b    []byte
		want uint32
	}{
		{nil, 0},
		{[]byte{}, 0},
		{[]byte{49, 50, 51, 52, 53, 54, 55, 56, 57}, 0xcbf43926},
		{[]byte{0}, 0xd202ef8d},
		{[]byte{255}, 0xff000000},
		{[]byte{0, 0, 0, 0}, 0x2144df1c},
		{[]byte{255, 255, 255, 255}, 0xffffffff},
		{[]byte("a"), 0xe8b7be43},
	}
	for _, c := range cases {
		if got := impl.Checksum(c.b); got != c.want {
			t.Errorf("checksum of %v is %#x, want %#x", c.b, got, c.want)
		}
	}
}

// Chapter 2.2: every byte value, alone and behind others, against a checksum worked out another way.
func TestChecksumOfEveryByte(t *testing.T) {
	for v := range 256 {
		for _, b := range [][]byte{{byte(v)}, {255, byte(v)}, {byte(v), 0, 0}, bytes.Repeat([]byte{byte(v)}, 70)} {
			got := impl.Checksum(b)
			want := sumBytes(b)
			if got != uint32(want[0])|uint32(want[1])<<8|uint32(want[2])<<16|uint32(want[3])<<24 {
				t.Errorf("checksum of %v is %#x, want the bytes %v", b, got, want)
			}
		}
	}
}

// Rules for all chapters: Checksum leaves its argument as it is.
func TestChecksumLeavesItsArgument(t *testing.T) {
	b := []byte{1, 2, 3}
	impl.Checksum(b)
	if !bytes.Equal(b, []byte{1, 2, 3}) {
		t.Errorf("the bytes became %v", b)
	}
}
