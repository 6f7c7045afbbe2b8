package shard

import "testing"

// P11.1: bits are told from a place up to another one, as long as somebody asks.
func TestBitsFromTo(t *testing.T) {
	o := octets{0b1010_0011, 0b0000_0001, 63: 0b1111_0110}
	for _, asked := range []struct {
		from, to, most int
		want           string
	}{
		{0, 512, 9, "101000110"}, {0, 2, 9, "10"}, {2, 512, 7, "1000110"}, {7, 17, 99, "1000000010"}, {503, 512, 99, "011110110"}, {504, 511, 3, "111"},
		{5, 5, 9, ""}, {512, 512, 9, ""}, {0, 1, 9, "1"}, {511, 512, 9, "0"}, {0, 512, 1, "1"},
	} {
		var got signs
		for bit := range o.bits(asked.from, asked.to) {
			got = got.put(bit)
			if len(got) == asked.most {
				break
			}
		}
		if string(got) != asked.want {
			t.Errorf("from %d to %d: %s, not %s", asked.from, asked.to, got, asked.want)
		}
	}
}

// P11.1: signs stand behind those that were put ahead, as many as come.
func TestPut(t *testing.T) {
	if got := string(signs{}.put()); got != "" {
		t.Error(got)
	}
	if got := string(signs("10").put().put(0, 1, 1).put(0)); got != "100110" {
		t.Error(got)
	}
}
