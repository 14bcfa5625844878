package tests

import (
	"crypto/hmac"
	"crypto/sha256"
	"encoding/hex"
	"math"
	"math/rand"
	"strings"
	"testing"

	"loop.example/g00656/impl"
)

const maxTagged = 1000

// counted has the bytes 0, 1 .. 250, 0 .., so that no two blocks of it are alike.
func counted(count int) string {
	b := make([]byte, count)
	for i := range b {
		b[i] = byte(i % 251)
	}
	return string(b)
}

// keyOf has other bytes than counted, so that a key and a text that are exchanged are seen.
func keyOf(count int) string {
	b := make([]byte, count)
	for i := range b {
		b[i] = byte(7*i + 1)
	}
	return string(b)
}

func someText(r *rand.Rand, count int) string {
	b := make([]byte, count)
	r.Read(b)
	return string(b)
}

// flipped has one bit that is another one.
func flipped(s string, bit int) string {
	b := []byte(s)
	b[bit/8] ^= 1 << (bit % 8)
	return string(b)
}

// digest and tag are those of Go's own library.
func digest(text string) string {
	sum := sha256.Sum256([]byte(text))
	return string(sum[:])
}

func tag(key string, text string) string {
	h := hmac.New(sha256.New, []byte(key))
	h.Write([]byte(text))
	return string(h.Sum(nil))
}

// The digests of FIPS 180-4's examples, and those that Python's hashlib tells.
func TestSha256Known(t *testing.T) {
	for _, x := range []struct {
		text string
		want string
	}{
		{"", "e3b0c44298fc1c149afbf4c8996fb92427ae41e4649b934ca495991b7852b855"},
		{"abc", "ba7816bf8f01cfea414140de5dae2223b00361a396177a9cb410ff61f20015ad"},
		{"abcdbcdecdefdefgefghfghighijhijkijkljklmklmnlmnomnopnopq", "248d6a61d20638b8e5c026930c3e6039a33ce45964ff2167f6ecedd419db06c1"},
		{"abcdefghbcdefghicdefghijdefghijkefghijklfghijklmghijklmnhijklmnoijklmnopjklmnopqklmnopqrlmnopqrsmnopqrstnopqrstu", "cf5b16a778af8380036ce59e7b0492370b249b11e8f07a51afac45037afee9d1"},
		{counted(1), "6e340b9cffb37a989ca544e6bb780a2c78901d3fb33738768511a30617afa01d"},
		{counted(3), "ae4b3280e56e2faf83f414a6e3dabe9d5fbe18976544c05fed121accb85b53fc"},
		{counted(55), "463eb28e72f82e0a96c0a4cc53690c571281131f672aa229e0d45ae59b598b59"},
		{counted(56), "da2ae4d6b36748f2a318f23e7ab1dfdf45acdc9d049bd80e59de82a60895f562"},
		{counted(57), "2fe741af801cc238602ac0ec6a7b0c3a8a87c7fc7d7f02a3fe03d1c12eac4d8f"},
		{counted(63), "29af2686fd53374a36b0846694cc342177e428d1647515f078784d69cdb9e488"},
		{counted(64), "fdeab9acf3710362bd2658cdc9a29e8f9c757fcf9811603a8c447cd1d9151108"},
		{counted(65), "4bfd2c8b6f1eec7a2afeb48b934ee4b2694182027e6d0fc075074f2fabb31781"},
		{counted(118), "d32ab00929cb935b79d44e74c5a745db460ff794dea3b79be40c1cc5cf5388ef"},
		{counted(119), "da18797ed7c3a777f0847f429724a2d8cd5138e6ed2895c3fa1a6d39d18f7ec6"},
		{counted(120), "f52b23db1fbb6ded89ef42a23ce0c8922c45f25c50b568a93bf1c075420bbb7c"},
		{counted(121), "335a461692b30bba1d647cc71604e88e676c90e4c22455d0b8c83f4bd7c8ac9b"},
		{counted(127), "92ca0fa6651ee2f97b884b7246a562fa71250fedefe5ebf270d31c546bfea976"},
		{counted(128), "471fb943aa23c511f6f72f8d1652d9c880cfa392ad80503120547703e56a2be5"},
		{counted(129), "5099c6a56203f9687f7d33f4bfdf576d31dc91f6b695ecea38b2770c87631135"},
		{counted(183), "b1459345163aed1c356302a5230f8912564b04f340610b18ef1aa2c47b418981"},
		{counted(184), "82f63a1d007fd9796756abbbf51c246884dde3d79cf9cacacc901462ae75e3ff"},
		{counted(999), "c3d1405fe098ec40337ff3ece8f643481606872ee3eac8489d972fedcb063de7"},
		{counted(1000), "4e4c294b331f7a2099a379bec34b9f9fc03dc46ab465d998f4d683da53487e6d"},
	} {
		if s := hex.EncodeToString([]byte(impl.Sha256(x.text))); s != x.want {
			t.Error(len(x.text), s)
		}
	}
}

func TestSha256OfEachLength(t *testing.T) {
	r := rand.New(rand.NewSource(120))
	for n := range maxTagged + 1 {
		for _, text := range []string{counted(n), strings.Repeat("\x00", n), strings.Repeat("\xff", n), someText(r, n), someText(r, n)} {
			if s := impl.Sha256(text); s != digest(text) {
				t.Fatalf("%d: %x", n, s)
			}
		}
	}
}

func TestSha256Refuses(t *testing.T) {
	for _, n := range []int{maxTagged + 1, maxTagged + 2, 1024, 2000, 100000} {
		if s := impl.Sha256(counted(n)); s != "" {
			t.Errorf("%d: %x", n, s)
		}
	}
}

// The tags of RFC 4231's test cases, of which two have keys that are longer than a block.
func TestHmacKnown(t *testing.T) {
	long := strings.Repeat("\xaa", 131)
	for i, x := range []struct {
		key  string
		text string
		want string
	}{
		{strings.Repeat("\x0b", 20), "Hi There", "b0344c61d8db38535ca8afceaf0bf12b881dc200c9833da726e9376c2e32cff7"},
		{"Jefe", "what do ya want for nothing?", "5bdcc146bf60754e6a042426089575c75a003f089d2739839dec58b964ec3843"},
		{strings.Repeat("\xaa", 20), strings.Repeat("\xdd", 50), "773ea91e36800e46854db8ebd09181a72959098b3ef8c122d9635514ced565fe"},
		{long, "Test Using Larger Than Block-Size Key - Hash Key First", "60e431591ee0b67f0d8a26aacbf5b77f8e0bc6213728c5140546040f0ee37f54"},
		{long, "This is a test using a larger than block-size key and a larger than block-size data. The key needs to be hashed before being used by the HMAC algorithm.", "9b09ffa71b942fcb27635fbcd5b0e944bfdc63644f0713938a7f51535c3a35e2"},
	} {
		if s := hex.EncodeToString([]byte(impl.Hmac(x.key, x.text))); s != x.want {
			t.Error(i, s)
		}
	}
}

// The tags that Python's hmac tells, at each length of a key that the document or a block sets apart.
func TestHmacOfEachKey(t *testing.T) {
	for _, x := range []struct {
		key  int
		text int
		want string
	}{
		{0, 0, "b613679a0814d9ec772f95d778c35fc5ff1697c493715653c6c712144292c5ad"},
		{0, 56, "4c86cdb315d91814cd5976383d61276d8cb1d0061e82a4649177088c8f846e2f"},
		{0, 1000, "192683c6c993d8514ff6107597a93cf26e5e76bb16e22dd54128545866f7563d"},
		{1, 0, "2f8738164025afdddbc18665c6e8f37de9498db7fd194873c61ee30c22192a9a"},
		{1, 56, "e384a45df8aa57ad28cd9f0ead6d0f4961186d1e0264ff1cc9fb05bf23e955fe"},
		{1, 1000, "2ac98afcdb39246f8d279a62c4b10172b46cc9301a8b94334c421749cc5f86f5"},
		{63, 0, "963cfdc4e92b3d20fb3ba0d72d3d25e9fac674e6b5ca3e963e7aca7342fafd55"},
		{63, 56, "62ebd2ec7f8914ab996a91884d15028fd0c097cbb9adfdecbefbb2995076b70b"},
		{63, 1000, "f4b37dbc1ee57851324735b702514975530404f839bd58160cd465cfdcbaef9c"},
		{64, 0, "e85cffc652260de36a1ddbb0cac32dc4cf975b7cdbc0468fc61847947ba83b25"},
		{64, 56, "df97f127b841b207de3dd3a7cb2553b55a400098b77048d16aea235b22d93c43"},
		{64, 1000, "0507785ef788501fa8da37e63ea95eb365f9bb6847157ea1e766f6ea9cf2b1b0"},
		{65, 0, "d8dcfa9ddfed8fd078bb0531ba6f4ac3d4fee7417a621c4bc380f0b6e83894eb"},
		{65, 56, "efe4eb11ad4d35857b96671b168a4d7775b8faff259f4898370a5726764d4700"},
		{65, 1000, "2bbbab4421db6ff5aa12592e5ce563095b3b673d92e259fc33a6962543247d2a"},
		{1000, 0, "2b2cb35e1cac0a80adf570eec1f4e58781604daddfdf3ca7eba748c16339a701"},
		{1000, 56, "f22d9fbfbc773376cc915d077186a5bdc1d364c0eef7d523b45c1fe5c4046173"},
		{1000, 1000, "b45ad72f03edf31f77f1b260b73f8f2ae86365bacdcb295ee3613ff252e1a7bf"},
	} {
		if s := hex.EncodeToString([]byte(impl.Hmac(keyOf(x.key), counted(x.text)))); s != x.want {
			t.Error(x.key, x.text, s)
		}
	}
}

func TestHmac(t *testing.T) {
	r := rand.New(rand.NewSource(121))
	for n := range maxTagged + 1 {
		for _, x := range [][2]string{{keyOf(n), counted(50)}, {keyOf(20), counted(n)}, {someText(r, n), someText(r, r.Intn(maxTagged+1))}, {someText(r, r.Intn(70)), someText(r, n)}} {
			if s := impl.Hmac(x[0], x[1]); s != tag(x[0], x[1]) {
				t.Fatalf("%d, %d: %x", len(x[0]), len(x[1]), s)
			}
		}
	}
}

func TestHmacRefuses(t *testing.T) {
	for _, x := range [][2]int{{maxTagged + 1, 0}, {maxTagged + 1, 48}, {maxTagged + 1, maxTagged}, {0, maxTagged + 1}, {64, maxTagged + 1}, {maxTagged, maxTagged + 1}, {maxTagged + 1, maxTagged + 1}, {100000, 5}, {5, 100000}} {
		if s := impl.Hmac(keyOf(x[0]), counted(x[1])); s != "" {
			t.Errorf("%v: %x", x, s)
		}
	}
}

// tagKeys are of each length that makes a difference.
func tagKeys() []string {
	return []string{"", "k", "key", keyOf(63), keyOf(64), keyOf(65), keyOf(maxTagged - 1), keyOf(maxTagged)}
}

func noTag(t *testing.T, s string, key string) {
	t.Helper()
	if p, ok := impl.ReadMac(s, key); ok || p != (impl.Packet{}) {
		t.Errorf("%x is read under %x as %+v, %v", s, key, p, ok)
	}
}

func TestMacTextByHand(t *testing.T) {
	want := hex.EncodeToString([]byte(sentBytes)) + "1150a8410cd4010cc6f5afdc94a9cc8ce9a786210d4e1479b114a3d9aa9f911f"
	if s := hex.EncodeToString([]byte(impl.MacText(sent, "key"))); s != want {
		t.Error(s)
	}
	for _, key := range tagKeys() {
		s := impl.MacText(sent, key)
		if s != sentBytes+tag(key, sentBytes) {
			t.Errorf("%x: %x", key, s)
		}
		if p, ok := impl.ReadMac(s, key); !ok || p != sent {
			t.Errorf("%x: %+v, %v", key, p, ok)
		}
	}
}

func TestMacTextRefuses(t *testing.T) {
	for _, f := range packetFields() {
		for _, x := range []int64{f.low - 1, f.high + 1, math.MinInt64, math.MaxInt64} {
			p := sent
			*f.at(&p) = x
			if s := impl.MacText(p, "key"); s != "" {
				t.Errorf("%s %d: %x", f.name, x, s)
			}
		}
		for _, x := range []int64{f.low, f.high} {
			p := sent
			*f.at(&p) = x
			s := impl.MacText(p, "key")
			if q, ok := impl.ReadMac(s, "key"); !ok || q != p {
				t.Errorf("%s %d: %x", f.name, x, s)
			}
		}
	}
	for _, n := range []int{maxTagged + 1, maxTagged + 2, 5000} {
		if s := impl.MacText(sent, keyOf(n)); s != "" {
			t.Errorf("%d: %x", n, s)
		}
		if s := impl.MacText(impl.Packet{}, keyOf(n)); s != "" {
			t.Errorf("%d: %x", n, s)
		}
	}
	if s := impl.MacText(impl.Packet{}, ""); s != "" {
		t.Errorf("%x", s)
	}
}

func TestReadMacRefusesLengths(t *testing.T) {
	for _, key := range []string{"", "key", keyOf(maxTagged)} {
		s := impl.MacText(sent, key)
		for n := range len(s) {
			noTag(t, s[:n], key)
		}
		for n := 1; n <= len(s); n++ {
			noTag(t, s[n:], key)
			noTag(t, s+s[:n], key)
			noTag(t, s+strings.Repeat("\x00", n), key)
		}
		// What stands at the end is the tag of what is ahead of it, but that is no packet.
		noTag(t, sentBytes[:47]+tag(key, sentBytes[:47]), key)
		noTag(t, sentBytes+"\x00"+tag(key, sentBytes+"\x00"), key)
	}
}

func TestReadMacRefusesKeys(t *testing.T) {
	keys := append(tagKeys(), "l", "Key", "ke", "keys", keyOf(62), keyOf(66), flipped(keyOf(64), 511), flipped(keyOf(65), 519), flipped(keyOf(maxTagged), 0))
	for _, key := range keys {
		s := impl.MacText(sent, key)
		for _, other := range keys {
			if other != key {
				noTag(t, s, other)
			}
		}
	}
	for _, n := range []int{maxTagged + 1, maxTagged + 2, 5000} {
		long := keyOf(n)
		noTag(t, "", long)
		noTag(t, sentBytes, long)
		noTag(t, sentBytes+tag(long, sentBytes), long)
		noTag(t, sentBytes+impl.Sha256(""), long)
	}
}

// What RFC 2104 makes of two keys may be the same block; then each reads what the other one has tagged.
func TestKeysOfOneBlock(t *testing.T) {
	for _, x := range [][2]string{{"", "\x00"}, {"key", "key\x00"}, {"", strings.Repeat("\x00", 64)}, {keyOf(65), digest(keyOf(65))}, {keyOf(maxTagged), digest(keyOf(maxTagged)) + "\x00"}} {
		if p, ok := impl.ReadMac(impl.MacText(sent, x[0]), x[1]); !ok || p != sent {
			t.Errorf("%x is not read under %x", x[0], x[1])
		}
		if p, ok := impl.ReadMac(impl.MacText(sent, x[1]), x[0]); !ok || p != sent {
			t.Errorf("%x is not read under %x", x[1], x[0])
		}
	}
	noTag(t, impl.MacText(sent, ""), strings.Repeat("\x00", 65))
	noTag(t, impl.MacText(sent, keyOf(64)), digest(keyOf(64)))
	noTag(t, impl.MacText(sent, "key"), "\x00key")
}

// The tag is right, but what is ahead of it is no packet.
func TestReadMacRefusesPackets(t *testing.T) {
	for _, at := range []int{0, 1, 2, 3, 12, 15, 16, 24, 32, 40} {
		s := sentBytes[:at] + "\xff" + sentBytes[at+1:]
		_, right := impl.ReadPacket(s)
		if right {
			t.Fatal(at)
		}
		noTag(t, s+tag("key", s), "key")
	}
	for at := range 48 {
		for x := range 256 {
			s := sentBytes[:at] + string([]byte{byte(x)}) + sentBytes[at+1:]
			want, right := impl.ReadPacket(s)
			if p, ok := impl.ReadMac(s+tag("key", s), "key"); ok != right || p != want {
				t.Fatalf("%x: %+v, %v", s, p, ok)
			}
		}
	}
}

// Promise 12, asked of the program alone.
func TestPacketsComeBackWithTheirTag(t *testing.T) {
	r := rand.New(rand.NewSource(122))
	keys := tagKeys()
	for i := range 300 {
		p, key := somePacket(r), keys[i%len(keys)]
		if i%2 == 0 {
			key = someText(r, r.Intn(maxTagged+1))
		}
		s := impl.MacText(p, key)
		if q, ok := impl.ReadMac(s, key); !ok || q != p {
			t.Fatalf("%+v under %x: %+v, %v", p, key, q, ok)
		}
		for bit := range 8 * len(s) {
			// In the packet as well: the tag is that of another one then.
			if q, ok := impl.ReadMac(flipped(s, bit), key); ok || q != (impl.Packet{}) {
				t.Fatalf("%+v under %x, bit %d: %+v, %v", p, key, bit, q, ok)
			}
		}
		if again := impl.MacText(p, key); again != s {
			t.Fatalf("%x is not %x", again, s)
		}
	}
}
