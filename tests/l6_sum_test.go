package tests

import (
	"crypto/hmac"
	"crypto/sha256"
	"encoding/hex"
	"math/rand"
	"strings"
	"testing"

	"loop.example/medlar/impl"
)

// P26: sums that the whole world knows.
func TestHashSumKnown(t *testing.T) {
	for _, c := range []struct{ text, sum string }{
		{"abc", "ba7816bf8f01cfea414140de5dae2223b00361a396177a9cb410ff61f20015ad"},
		{"", "e3b0c44298fc1c149afbf4c8996fb92427ae41e4649b934ca495991b7852b855"},
		{"abcdbcdecdefdefgefghfghighijhijkijkljklmklmnlmnomnopnopq", "248d6a61d20638b8e5c026930c3e6039a33ce45964ff2167f6ecedd419db06c1"},
		{"abcdefghbcdefghicdefghijdefghijkefghijklfghijklmghijklmnhijklmnoijklmnopjklmnopqklmnopqrlmnopqrsmnopqrstnopqrstu", "cf5b16a778af8380036ce59e7b0492370b249b11e8f07a51afac45037afee9d1"},
		{strings.Repeat("a", 1000000), "cdc76e5c9914fb9281a1c7e284d73e67f1809a48a497200e046d39ccc7112cd0"},
		{"\xbd", "68325720aabd7c82f30f554b313d0570c95accbb7dc4b5aae11204c08ffe732b"},
		{strings.Repeat("\x00", 55), "02779466cdec163811d078815c633f21901413081449002f24aa3e80f0b88ef7"},
		{strings.Repeat("\x00", 56), "d4817aa5497628e7c77e6b606107042bbba3130888c5f47a375e6179be789fbb"},
		{strings.Repeat("\x00", 64), "f5a5fd42d16a20302798ef6ed309979b43003d2320d9f0e8ea9831a92759fb4b"},
	} {
		if sum := impl.HashSum(c.text); sum != c.sum {
			t.Errorf("%.20q of %d bytes: %s", c.text, len(c.text), sum)
		}
	}
}

// hashByWorld is the sum of a text by another program.
func hashByWorld(text string) string {
	sum := sha256.Sum256([]byte(text))
	return hex.EncodeToString(sum[:])
}

// sealByWorld is the seal of a text by another program.
func sealByWorld(key string, text string) string {
	h := hmac.New(sha256.New, []byte(key))
	h.Write([]byte(text))
	return hex.EncodeToString(h.Sum(nil))
}

// anyText is some bytes of all kinds.
func anyText(r *rand.Rand, length int) string {
	b := make([]byte, length)
	r.Read(b)
	return string(b)
}

// P26: sums of texts of all lengths around blocks, of 55, 56, 63, 64 and 65 bytes among them.
func TestHashSumMany(t *testing.T) {
	r := rand.New(rand.NewSource(41))
	for length := range 400 {
		for _, text := range []string{anyText(r, length), strings.Repeat("\x00", length), strings.Repeat("\xff", length), strings.Repeat("a", length)} {
			if sum := impl.HashSum(text); sum != hashByWorld(text) {
				t.Fatalf("%d bytes, %q: %s", length, text, sum)
			}
		}
	}
	for range 100 {
		text := anyText(r, r.Intn(5000))
		if sum := impl.HashSum(text); sum != hashByWorld(text) {
			t.Fatalf("%d bytes: %s", len(text), sum)
		}
	}
}

// P27: seals that the whole world knows.
func TestSealOfKnown(t *testing.T) {
	count := ""
	for i := 1; i <= 25; i++ {
		count += string([]byte{byte(i)})
	}
	for _, c := range []struct{ key, text, seal string }{
		{strings.Repeat("\x0b", 20), "Hi There", "b0344c61d8db38535ca8afceaf0bf12b881dc200c9833da726e9376c2e32cff7"},
		{"Jefe", "what do ya want for nothing?", "5bdcc146bf60754e6a042426089575c75a003f089d2739839dec58b964ec3843"},
		{strings.Repeat("\xaa", 20), strings.Repeat("\xdd", 50), "773ea91e36800e46854db8ebd09181a72959098b3ef8c122d9635514ced565fe"},
		{count, strings.Repeat("\xcd", 50), "82558a389a443c0ea4cc819899f2083a85f0faa3e578f8077a2e3ff46729665b"},
		{"key", "The quick brown fox jumps over the lazy dog", "f7bc83f430538424b13298e6aa6fb143ef4d59a14946175997479dbc2d1a3cd8"},
		// No key of 131 bytes is one.
		{strings.Repeat("\xaa", 131), "Test Using Larger Than Block-Size Key - Hash Key First", ""},
	} {
		if seal := impl.SealOf(c.key, c.text); seal != c.seal {
			t.Errorf("%q by %q: %s", c.text, c.key, seal)
		}
	}
}

// P27: seals by keys of all lengths.
func TestSealOfMany(t *testing.T) {
	r := rand.New(rand.NewSource(42))
	for length := 1; length <= 64; length++ {
		for _, size := range []int{0, 1, 55, 56, 63, 64, 65, 128, 1200, 1201, r.Intn(300)} {
			key, text := anyText(r, length-1)+"k", anyText(r, size)
			if seal := impl.SealOf(key, text); seal != sealByWorld(key, text) {
				t.Fatalf("%d bytes by %q: %s", size, key, seal)
			}
		}
	}
}

// goodKeys are keys, and badKeys texts that are none.
var (
	goodKeys = []string{"k", "key", "0", "k0", "\x01", "\xff", "\n", " ", "\x00k", "a\x00b", strings.Repeat("\x00", 63) + "k", strings.Repeat("k", 63), strings.Repeat("k", 64), strings.Repeat("\xff", 64)}
	badKeys  = []string{"", "\x00", "k\x00", "k\x00\x00", strings.Repeat("\x00", 64), strings.Repeat("k", 63) + "\x00", strings.Repeat("k", 65), strings.Repeat("k", 64) + "\x00", strings.Repeat("\x00", 65), strings.Repeat("k", 10000)}
)

// P27: which texts are keys.
func TestKeys(t *testing.T) {
	b := impl.Book{Entries: []impl.Entry{{Stem: "cat"}}}
	for _, key := range goodKeys {
		if impl.SealOf(key, "x") != sealByWorld(key, "x") {
			t.Errorf("%q seals otherwise", key)
		}
		if r, ok := impl.ReleaseOf(key, 0, impl.Book{}, b); !ok || !impl.ReleaseOk(key, r) {
			t.Errorf("no release by %q", key)
		}
	}
	good, _ := impl.ReleaseOf("k", 0, impl.Book{}, b)
	for _, key := range badKeys {
		for _, text := range []string{"", "x"} {
			if seal := impl.SealOf(key, text); seal != "" {
				t.Errorf("%q seals: %s", key, seal)
			}
		}
		if r, ok := impl.ReleaseOf(key, 0, impl.Book{}, b); ok || !sameRelease(r, impl.Release{}) {
			t.Errorf("%+v by %q", r, key)
		}
		// Sealed by what is no key, as the rest of the world would do it.
		forged := good
		forged.Seal = sealByWorld(key, textOfRelease(good))
		for _, r := range []impl.Release{good, forged, {Number: 1, Sum: good.Sum}} {
			if got, ok := impl.ReleaseDo(key, 0, impl.Book{}, r); impl.ReleaseOk(key, r) || ok || !sameBook(got, impl.Book{}) {
				t.Errorf("%+v is ok by %q", r, key)
			}
		}
	}
}
