package box_test

import (
	library "crypto/hmac"
	"crypto/sha256"
	"encoding/hex"
	"math/big"
	"math/rand/v2"
	"slices"
	"strings"
	"sync"
	"testing"

	"casemate/api"
	"casemate/box"
	"casemate/bytes"
	"casemate/derive"
	"casemate/hmac"
)

// use is what a key is wrapped with beside the wrapping one.
type use struct {
	label  string
	number uint64
}

// source draws the same keys and labels at each run.
func source(seed byte) *rand.ChaCha8 {
	return rand.NewChaCha8([32]byte{seed})
}

// drawKey is the next key of a source.
func drawKey(from *rand.ChaCha8) (k api.Key) {
	from.Read(k[:])
	return k
}

// drawBytes is the next n bytes of a source.
func drawBytes(from *rand.ChaCha8, n int) []byte {
	b := make([]byte, n)
	from.Read(b)
	return b
}

// same is the key of 32 bytes c.
func same(c byte) (k api.Key) {
	for i := range k {
		k[i] = c
	}
	return k
}

// counting is the key 00 01 02 .. 1f.
func counting() (k api.Key) {
	for i := range k {
		k[i] = byte(i)
	}
	return k
}

// published is the tag of a message by Go's own library.
func published(k api.Key, message []byte) (tag [32]byte) {
	mac := library.New(sha256.New, k[:])
	mac.Write(message)
	copy(tag[:], mac.Sum(nil))
	return tag
}

// digits has a number's digits, found by big numbers.
func digits(n uint64) string {
	return new(big.Int).SetUint64(n).Text(10)
}

// paperSub is the key of a text under k, by the chapters' words.
func paperSub(k api.Key, text string) api.Key {
	n := len(text)
	row := []byte{0x44, 1, byte(n >> 24), byte(n >> 16), byte(n >> 8), byte(n)}
	return published(k, append(row, text...))
}

// paperSum is two keys, added.
func paperSum(a, b api.Key) (s api.Key) {
	for i := range s {
		s[i] = a[i]&^b[i] | b[i]&^a[i]
	}
	return s
}

// message is what a box's tag is of: the row of the domain B with one part, the Data.
func message(data api.Key) []byte {
	return append([]byte{0x42, 1, 0, 0, 0, 32}, data[:]...)
}

// paperTag is the tag of Data under k with a use.
func paperTag(k api.Key, u use, data api.Key) api.Tag {
	return published(paperSub(k, u.label+" seal "+digits(u.number)), message(data))
}

// paper is the box of plain by the chapter's words.
func paper(k api.Key, u use, plain api.Key) api.Box {
	data := paperSum(plain, paperSub(k, u.label+" pad "+digits(u.number)))
	return api.Box{Data: data, Tag: paperTag(k, u, data)}
}

// wrap is box.Wrap with a use.
func wrap(k api.Key, u use, plain api.Key) api.Box {
	return box.Wrap(k, u.label, u.number, plain)
}

// checkWrap holds what Wrap tells against the paper, and that it is unwrapped again.
func checkWrap(t *testing.T, k api.Key, u use, plain api.Key) {
	t.Helper()
	b := wrap(k, u, plain)
	if want := paper(k, u, plain); b != want {
		t.Errorf("%x by %x, %.40q, %d: %x, want %x", plain, k, u.label, u.number, b, want)
	}
	checkOpens(t, k, u, b, plain)
}

// checkOpens holds that a box is unwrapped, and what it is then.
func checkOpens(t *testing.T, k api.Key, u use, b api.Box, plain api.Key) {
	t.Helper()
	if got, e := box.Unwrap(k, u.label, u.number, b); got != plain || e != api.OK {
		t.Errorf("%x by %x, %.40q, %d: %x, %d, want %x", b, k, u.label, u.number, got, e, plain)
	}
}

// checkShut holds that a box is not unwrapped, and that beside the error nothing is told.
func checkShut(t *testing.T, k api.Key, u use, b api.Box) {
	t.Helper()
	if got, e := box.Unwrap(k, u.label, u.number, b); got != (api.Key{}) || e != api.ErrAuth {
		t.Errorf("%x by %x, %.40q, %d: %x, %d", b, k, u.label, u.number, got, e)
	}
}

// keys are those of bytes 0, 1, 2 and ff, of unlike bytes, of bytes 0 at an end, of one bit alone, and drawn ones.
func keys() []api.Key {
	l := []api.Key{{}, same(1), same(2), same(0xFF), counting(), {1, 2, 3}, {29: 3, 30: 2, 31: 1}}
	for bit := range 256 {
		l = append(l, turned(api.Key{}, bit))
	}
	from := source(1)
	for range 30 {
		l = append(l, drawKey(from))
	}
	return l
}

// turned is a key with one bit changed.
func turned(k api.Key, bit int) api.Key {
	k[bit/8] ^= 1 << (bit % 8)
	return k
}

// numbers are those around each place where one more digit, bit or byte begins, the greatest ones, and drawn ones.
func numbers() []uint64 {
	l := []uint64{0, 1, 2, 3, 12, 90, 109, 120, api.MaxCount - 1, api.MaxCount, api.MaxCount + 1, 1<<64 - 1}
	for bit := range 64 {
		l = append(l, 1<<bit, 1<<bit-1)
	}
	for ten := uint64(10); ten < 1e19; ten *= 10 {
		l = append(l, ten-1, ten, ten+1)
	}
	from := source(2)
	for range 30 {
		l = append(l, from.Uint64())
	}
	slices.Sort(l)
	return slices.Compact(l)
}

// labels are those of the program, and such as are easily taken for each other, or for what stands behind a label.
func labels() []string {
	return []string{
		"", "slot", "volume", "Slot", "SLOT", "slo", "slots", " slot", "slot ", "slot\n", "\"slot\"", "sl\x00ot", "slot\x00", "\x00",
		"pad", "seal", "pad ", " pad", "seal ", " seal", "slot pad", "slot seal", "slot pad ", "slot seal ", "slot pad 0", "slot seal 0", "slot pad 1", "slot seal 1",
		"slot pad 0 pad", "slot seal 0 seal", " ", "  ", "0", "1", " 0", "pad 0", "seal 0", "tree", "data", "tweak",
		"é", "e\u0301", "\xc3", "\xa9", "\xff\xfe", "\ufffd", "\xed\xa0\x80", "B", "D", "\x42\x01", strings.Repeat("a", 63), strings.Repeat("a", 64), strings.Repeat("a", 1000),
	}
}

// fixed are boxes that were found outside of the project, by Python's HMAC and OpenSSL's.
func fixed() []struct {
	k         api.Key
	u         use
	plain     api.Key
	data, tag string
} {
	return []struct {
		k         api.Key
		u         use
		plain     api.Key
		data, tag string
	}{
		{same(1), use{"slot", 0}, same(2), "94922817f4836d544e97181efefd8ad46326ee64de67afc84a59088b1ecbaf3b", "a93fef132976d03bd6d4124fbbd1cfb3e2b52097f50d9ddc9df2dc7b5210193d"},
		{same(1), use{"volume", 12}, same(2), "a35d09dc63977c482cd7e1cabfdb0882bf9445eae110a5d170c360c11eac2452", "e62928b4d8f14e21c7c825ce91482fe191414c667c5b66b81bcea0c96d3345ae"},
		{api.Key{}, use{"", 0}, api.Key{}, "d769bc21616ba51a29d15532704b4e8d011695d02b299e0e8b2736813917d0fe", "96af5baf5b0f693e9e77bcc67a036b98c3e9fbe467f50a5dde491f9f95482a5e"},
		{counting(), use{"volume", 1 << 62}, same(0xFF), "9475439e37224d0abab3dde6be5913acab01fea1e0594645452bf920133b785e", "68f3eb9d52fd0a9fa2b96616969d7c4f946694c4fe032d366173b29c1bcafa13"},
		{counting(), use{"volume", 1<<64 - 1}, counting(), "e762af69d520a2fd056c79be7fadbc99316fd860dcb166ce1e33024e395f5768", "00561ee96dae477d1669ff92b6e87d75f5d5761af65375149a3f0f1a80b9507e"},
		{same(0xFF), use{"a b\x00\xff", 10}, counting(), "3ea7097b2a1290568e569686dd08cbba2d4593cc022afed6aa3a07ef8aec9dcc", "49647697dde55aa98dd0d154542235d670c7e34b809706bb342bbaa1f6c6bc94"},
		{counting(), use{strings.Repeat("x", 100), 9}, api.Key{}, "44932d865b5bb8a470d1cdb51f5c5ff502dfef6c90f47345bffe3e23626a51f8", "a762d4ee495b466602f0136893c145f4f1c14cb912487c048b45e92693d36e07"},
	}
}

// P10.1
func TestWrapExamples(t *testing.T) {
	for _, x := range fixed() {
		b := wrap(x.k, x.u, x.plain)
		if hex.EncodeToString(b.Data[:]) != x.data || hex.EncodeToString(b.Tag[:]) != x.tag {
			t.Errorf("by %x, %.40q, %d: %x, want %s and %s", x.k, x.u.label, x.u.number, b, x.data, x.tag)
		}
		checkOpens(t, x.k, x.u, b, x.plain)
	}
}

// P10.1: the chapter's examples, by the layers below.
func TestTheChaptersExamples(t *testing.T) {
	k, v := same(1), same(2)
	pad, seal := derive.Sub(k, "slot pad 0"), derive.Sub(k, "slot seal 0")
	b := box.Wrap(k, "slot", 0, v)
	if b.Data != paperSum(v, pad) {
		t.Errorf("Data: %x", b.Data)
	}
	row, _ := bytes.Row('B', b.Data[:])
	if b.Tag != hmac.Of(seal[:], row) {
		t.Errorf("Tag: %x", b.Tag)
	}
	checkOpens(t, k, use{"slot", 0}, b, v)
	b.Tag[31] ^= 1
	checkShut(t, k, use{"slot", 0}, b)
	if n := len(box.Put(nil, b)); n != 64 {
		t.Errorf("Put lays %d bytes", n)
	}
	checkGetRefuses(t, make([]byte, 63))
}

// P10.1, P10.3: keys of all kinds, by such keys.
func TestAllKeysAreWrapped(t *testing.T) {
	for i, k := range keys() {
		checkWrap(t, k, use{"slot", 0}, counting())
		checkWrap(t, counting(), use{"volume", uint64(i)}, k)
		checkWrap(t, k, use{"slot", 1}, k)
	}
}

// P10.1, P10.3: labels of any bytes, and of all lengths around the ends of what a tag goes over at once.
func TestAllLabelsWrap(t *testing.T) {
	for _, label := range labels() {
		checkWrap(t, counting(), use{label, 0}, same(2))
	}
	from := source(3)
	for n := range 200 {
		checkWrap(t, counting(), use{string(drawBytes(from, n)), 7}, same(3))
	}
	checkWrap(t, counting(), use{string(drawBytes(from, 1<<16+1)), 8}, same(4))
}

// P10.1, P10.3: numbers of all lengths.
func TestAllNumbersWrap(t *testing.T) {
	for _, n := range numbers() {
		checkWrap(t, counting(), use{"volume", n}, same(2))
	}
}

// P10.1: a number's digits are to the base 10, with none ahead of them and nothing behind.
func TestANumbersDigits(t *testing.T) {
	k := counting()
	for n, text := range map[uint64]string{0: "0", 7: "7", 10: "10", 12: "12", 100: "100", 1 << 63: "9223372036854775808", 1<<64 - 1: "18446744073709551615"} {
		b := box.Wrap(k, "volume", n, api.Key{})
		if want := derive.Sub(k, "volume pad "+text); b.Data != want {
			t.Errorf("%d: the pad is %x, want %x", n, b.Data, want)
		}
		seal := derive.Sub(k, "volume seal "+text)
		if want := hmac.Of(seal[:], message(b.Data)); b.Tag != want {
			t.Errorf("%d: the tag is %x, want %x", n, b.Tag, want)
		}
	}
}

// P10.1: whoever tagged them, Data are opened by their tag, and by it alone.
func TestWhatIsTaggedIsOpened(t *testing.T) {
	from := source(4)
	u := use{"slot", 0}
	for range 50 {
		k, data := drawKey(from), drawKey(from)
		b := api.Box{Data: data, Tag: paperTag(k, u, data)}
		checkOpens(t, k, u, b, paperSum(data, paperSub(k, "slot pad 0")))
		b.Tag = api.Tag(drawKey(from))
		checkShut(t, k, u, b)
	}
	checkShut(t, counting(), u, api.Box{})
	checkShut(t, api.Key{}, use{}, api.Box{})
}

// P10.1, P10.3: with any bit of Data or of the tag turned, or any bytes of these others, a box is not opened.
func TestATurnedBoxIsShut(t *testing.T) {
	k, u := counting(), use{"volume", 12}
	b := wrap(k, u, same(2))
	for bit := range 256 {
		tag, data := b, b
		tag.Tag = api.Tag(turned(api.Key(b.Tag), bit))
		data.Data = turned(b.Data, bit)
		checkShut(t, k, u, tag)
		checkShut(t, k, u, data)
	}
	for i := range 32 {
		head, tail, both := b, b, b
		clear(head.Tag[:i+1])
		clear(tail.Tag[i:])
		both.Tag[i] ^= 1
		both.Tag[31-i] ^= 0x81
		for _, x := range []api.Box{head, tail, both} {
			checkShut(t, k, u, x)
		}
	}
}

// P10.1, P10.3: a box of one is no box of another one: neither its Data nor its tag may be taken over.
func TestPartsOfTwoBoxesAreShut(t *testing.T) {
	k, u := counting(), use{"volume", 12}
	a, b := wrap(k, u, same(2)), wrap(k, u, same(3))
	checkShut(t, k, u, api.Box{Data: a.Data, Tag: b.Tag})
	checkShut(t, k, u, api.Box{Data: b.Data, Tag: a.Tag})
	checkShut(t, k, u, api.Box{Data: api.Key(a.Tag), Tag: api.Tag(a.Data)})
	checkShut(t, k, u, api.Box{Data: a.Data})
	checkShut(t, k, u, api.Box{Tag: a.Tag})
}

// P10.1: by another key, label or number nothing is opened.
func TestAnotherUseIsShut(t *testing.T) {
	k, u := counting(), use{"slot", 0}
	b := wrap(k, u, same(2))
	for bit := range 256 {
		checkShut(t, turned(k, bit), u, b)
	}
	for _, label := range labels() {
		if label != u.label {
			checkShut(t, k, use{label, 0}, b)
		}
	}
	for _, n := range numbers() {
		if n != u.number {
			checkShut(t, k, use{u.label, n}, b)
		}
	}
}

// P10.1: a tag under the pad, under the wrapping key, or of another row than that of B and Data, opens nothing.
func TestATagOfAnotherKindIsShut(t *testing.T) {
	k, u := counting(), use{"slot", 0}
	b := wrap(k, u, same(2))
	pad, seal := paperSub(k, "slot pad 0"), paperSub(k, "slot seal 0")
	plain := same(2)
	wrong := []api.Tag{
		published(pad, message(b.Data)), published(k, message(b.Data)), published(api.Key{}, message(b.Data)),
		published(seal, b.Data[:]), published(seal, message(plain)), published(seal, nil), sha256.Sum256(message(b.Data)),
	}
	for domain := range 256 {
		for many := range 4 {
			row, e := bytes.Row(byte(domain), slices.Repeat([][]byte{b.Data[:]}, many)...)
			if e != api.OK {
				t.Fatalf("a row of %d parts: %d", many, e)
			}
			if domain != 'B' || many != 1 {
				wrong = append(wrong, published(seal, row))
			}
		}
	}
	for _, tag := range wrong {
		checkShut(t, k, u, api.Box{Data: b.Data, Tag: tag})
	}
}

// P10.1: the pads and the seals of unlike uses are keys of unlike labels, whatever looks alike in them, and so the boxes are unlike here.
func TestUsesAreNeverMixedUp(t *testing.T) {
	k := counting()
	texts, told := map[string]bool{}, map[api.Key]bool{}
	many := 0
	for _, label := range labels() {
		for _, n := range []uint64{0, 1, 10, 11, 100} {
			for _, text := range []string{label + " pad " + digits(n), label + " seal " + digits(n)} {
				texts[text] = true
			}
			b := box.Wrap(k, label, n, api.Key{})
			told[b.Data], told[api.Key(b.Tag)] = true, true
			many += 2
		}
	}
	if len(texts) != many || len(told) != many {
		t.Errorf("%d pads and seals have %d labels, %d unlike ones", many, len(texts), len(told))
	}
}

// P10.2
func TestPutLaysDataThenTag(t *testing.T) {
	var x api.Box
	for i := range 32 {
		x.Data[i], x.Tag[i] = byte(i+1), byte(i+101)
	}
	var want []byte
	for i := range 32 {
		want = append(want, byte(i+1))
	}
	for i := range 32 {
		want = append(want, byte(i+101))
	}
	for n := range 130 {
		ahead := drawBytes(source(5), n)
		if got := box.Put(ahead, x); string(got) != string(ahead)+string(want) {
			t.Errorf("behind %d bytes: %x", n, got)
		}
	}
	if got := box.Put(nil, x); string(got) != string(want) {
		t.Errorf("behind nothing: %x", got)
	}
	if got := box.Put(nil, api.Box{}); string(got) != strings.Repeat("\x00", 64) {
		t.Errorf("the zero box: %x", got)
	}
}

// checkGetRefuses holds that bytes are no box, and that beside the error nothing is told.
func checkGetRefuses(t *testing.T, b []byte) {
	t.Helper()
	if x, rest, e := box.Get(b); x != (api.Box{}) || len(rest) != 0 || e != api.ErrForm {
		t.Errorf("of %d bytes: %x, %x, %d", len(b), x, rest, e)
	}
}

// P10.2: all numbers of bytes below 64, whatever memory is behind them.
func TestGetOfTooFewBytes(t *testing.T) {
	checkGetRefuses(t, nil)
	long := drawBytes(source(6), 200)
	for n := range 64 {
		checkGetRefuses(t, long[:n])
		checkGetRefuses(t, slices.Clip(slices.Clone(long[:n])))
	}
}

// P10.2: 64 bytes and more: what they are, no tag of theirs is asked.
func TestGetTellsTheFirstBytes(t *testing.T) {
	long := drawBytes(source(7), 1000)
	for n := 64; n <= len(long); n++ {
		x, rest, e := box.Get(long[:n])
		if e != api.OK || string(x.Data[:]) != string(long[:32]) || string(x.Tag[:]) != string(long[32:64]) || string(rest) != string(long[64:n]) {
			t.Errorf("of %d bytes: %x, %x, %d", n, x, rest, e)
		}
	}
	if x, rest, e := box.Get(make([]byte, 64)); x != (api.Box{}) || len(rest) != 0 || e != api.OK {
		t.Errorf("of 64 bytes 0: %x, %x, %d", x, rest, e)
	}
}

// P10.2: boxes laid one behind the other are taken back one behind the other, and then nothing is left.
func TestWhatIsPutIsGot(t *testing.T) {
	from := source(8)
	var laid []byte
	var boxes []api.Box
	for range 20 {
		x := api.Box{Data: drawKey(from), Tag: api.Tag(drawKey(from))}
		laid, boxes = box.Put(laid, x), append(boxes, x)
	}
	for i, want := range boxes {
		x, rest, e := box.Get(laid)
		if x != want || len(rest) != 64*(len(boxes)-1-i) || e != api.OK {
			t.Errorf("box %d: %x, %d bytes left, %d", i, x, len(rest), e)
		}
		if again := box.Put(nil, x); string(again)+string(rest) != string(laid) {
			t.Errorf("box %d is laid as %x", i, again)
		}
		laid = rest
	}
	checkGetRefuses(t, laid)
}

// P10.3: what one wrapped goes through bytes, and is unwrapped.
func TestAKeyComesBack(t *testing.T) {
	from := source(9)
	for n := range 200 {
		k, plain, u := drawKey(from), drawKey(from), use{string(drawBytes(from, n%20)), from.Uint64()}
		b, _, e := box.Get(box.Put(nil, wrap(k, u, plain)))
		if e != api.OK {
			t.Fatalf("Get: %d", e)
		}
		checkOpens(t, k, u, b, plain)
	}
}

// P10.3: the rows of unlike Data are unlike: so whatever opens a box with other Data and the same tag has two rows with one tag. Here none does.
func TestOtherDataNeedOneTagOfTwoRows(t *testing.T) {
	k, u := counting(), use{"slot", 0}
	b := wrap(k, u, same(2))
	rows, all := map[string]bool{}, keys()
	for _, data := range all {
		row, e := bytes.Row('B', data[:])
		if e != api.OK || string(row) != string(message(data)) {
			t.Fatalf("the row of %x: %x, %d", data, row, e)
		}
		rows[string(row)] = true
		_, e = box.Unwrap(k, u.label, u.number, api.Box{Data: data, Tag: b.Tag})
		if isTagged := hmac.Same(paperTag(k, u, data), b.Tag); isTagged != (e == api.OK) {
			t.Errorf("Data %x: %d, though that it has the tag is %t", data, e, isTagged)
		}
	}
	if len(rows) != len(all) {
		t.Errorf("%d Data have %d rows", len(all), len(rows))
	}
}

// P10.4: two keys that are wrapped by one key, label and number show their sum; by another number they do not.
func TestANumberIsUsedOnce(t *testing.T) {
	from := source(10)
	for range 50 {
		k, p, q, n := drawKey(from), drawKey(from), drawKey(from), from.Uint64()
		a, b, c := box.Wrap(k, "volume", n, p), box.Wrap(k, "volume", n, q), box.Wrap(k, "volume", n+1, q)
		if paperSum(a.Data, b.Data) != paperSum(p, q) {
			t.Errorf("with the number %d once more the sum is another one", n)
		}
		if paperSum(a.Data, c.Data) == paperSum(p, q) {
			t.Errorf("with the numbers %d and %d the sum is shown", n, n+1)
		}
	}
}

// R1: labels and bytes of any kind, none, and many.
func TestNoCallPanics(t *testing.T) {
	from := source(11)
	for n := range 200 {
		k, u, b := drawKey(from), use{string(drawBytes(from, n)), from.Uint64()}, drawBytes(from, n)
		wrap(k, u, drawKey(from))
		box.Unwrap(k, u.label, u.number, api.Box{Data: drawKey(from)})
		box.Get(b)
		box.Put(b[:n/2], api.Box{})
	}
	long := strings.Repeat("\xff", 1<<24)
	box.Unwrap(api.Key{}, long, 1<<64-1, box.Wrap(api.Key{}, long, 1<<64-1, api.Key{}))
	box.Get(box.Put([]byte(long), api.Box{}))
	box.Get([]byte{})
	box.Put([]byte{}, api.Box{})
}

// overwrite sets all bytes of a list, to its whole capacity.
func overwrite(b []byte) {
	for i := range b[:cap(b)] {
		b[:cap(b)][i] = 0xA5
	}
}

// R4: Put changes nothing of what is behind its bytes, and its answer shares no memory with these.
func TestPutAnswersNewMemory(t *testing.T) {
	x := api.Box{Data: counting(), Tag: api.Tag(same(9))}
	for _, room := range []int{0, 1, 63, 64, 65, 500} {
		memory := []byte("ab" + strings.Repeat("z", room))
		told := box.Put(memory[:2], x)
		want := string(told)
		if string(memory) != "ab"+strings.Repeat("z", room) {
			t.Errorf("room for %d bytes: behind the bytes there is now %q", room, memory)
		}
		overwrite(memory)
		if string(told) != want {
			t.Errorf("room for %d bytes: with the bytes the answer has changed", room)
		}
		memory = []byte("ab" + strings.Repeat("z", room))
		one, other := box.Put(memory[:2], x), box.Put(memory[:2], x)
		overwrite(one)
		if string(other) != want || string(memory) != "ab"+strings.Repeat("z", room) {
			t.Errorf("room for %d bytes: with an answer, another one or the bytes have changed", room)
		}
	}
}

// R4: Get changes nothing, and its answer shares no memory with what it was given.
func TestGetAnswersNewMemory(t *testing.T) {
	for _, n := range []int{64, 65, 200} {
		b := drawBytes(source(12), n+50)[:n]
		before := string(b[:cap(b)])
		x, rest, _ := box.Get(b)
		overwrite(rest)
		if string(b[:cap(b)]) != before {
			t.Errorf("%d bytes: with the answer, they have changed", n)
		}
		y, rest, _ := box.Get(b)
		overwrite(b)
		if x != y || string(x.Data[:])+string(x.Tag[:])+string(rest) != before[:n] {
			t.Errorf("%d bytes: with them, the answer has changed", n)
		}
	}
}

// R4: what becomes of keys and boxes that were handed in, or told, changes no answer.
func TestNothingIsKept(t *testing.T) {
	k, plain, u := counting(), same(2), use{"slot", 0}
	want := paper(counting(), u, same(2))
	b := wrap(k, u, plain)
	got, e := box.Unwrap(k, u.label, u.number, b)
	if k != counting() || plain != same(2) || b != want {
		t.Errorf("the keys and the box are now %x, %x, %x", k, plain, b)
	}
	clear(k[:])
	clear(plain[:])
	b = api.Box{}
	if got != same(2) || e != api.OK {
		t.Errorf("%x, %d", got, e)
	}
	checkWrap(t, counting(), u, same(2))
	checkWrap(t, k, u, plain)
}

// answer is what is told of one number: its box, what that tells, and what its bytes tell.
type answer struct {
	b     api.Box
	plain api.Key
	e     api.Errno
	laid  string
}

// answers asks for many boxes, from the place start on, round.
func answers(start int) []answer {
	const many = 120
	told := make([]answer, many)
	for step := range many {
		n := (start + step) % many
		k, u := api.Key{byte(n), 31: byte(n % 3)}, use{strings.Repeat("x", n%7), uint64(n / 2)}
		b := wrap(k, u, api.Key{5: byte(n)})
		plain, e := box.Unwrap(k, u.label, u.number+uint64(n%2), b)
		told[n] = answer{b, plain, e, string(box.Put([]byte{byte(n)}, b))}
	}
	return told
}

// R6: what was asked ahead, or is asked meanwhile, changes no answer.
func TestAnswersHangOnArgumentsAlone(t *testing.T) {
	want := answers(0)
	told := make([][]answer, 4)
	var all sync.WaitGroup
	for i := range told {
		all.Go(func() { told[i] = answers(i*29 + 1) })
	}
	all.Wait()
	for i := range told {
		if !slices.Equal(told[i], want) {
			t.Errorf("asked in order %d the answers are others", i)
		}
	}
}

// R3: box's calls are methods of nothing, so there is no object that could be nil. (That it hands out nothing else, and keeps nothing, is held in the folder layers.)
func TestCallsAreAsListed(t *testing.T) {
	var (
		_ func(k api.Key, label string, number uint64, plain api.Key) api.Box          = box.Wrap
		_ func(k api.Key, label string, number uint64, b api.Box) (api.Key, api.Errno) = box.Unwrap
		_ func(b []byte, x api.Box) []byte                                             = box.Put
		_ func(b []byte) (api.Box, []byte, api.Errno)                                  = box.Get
	)
}
