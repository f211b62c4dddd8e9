package ladder

import (
	"crypto/ecdh"
	"math/big"
	"math/rand"
	"testing"

	"tryst/api"
)

func drawnKeys(seed int64, n int) []api.Key {
	source := rand.New(rand.NewSource(seed))
	keys := make([]api.Key, n)
	for i := range keys {
		source.Read(keys[i][:])
	}
	return keys
}

// someKeys are the edges that the chapter names of private keys, keys of one bit at the clamped places, and drawn ones.
func someKeys() []api.Key {
	keys := []api.Key{
		{}, row(0xff, 0xff, 0xff), row(0xf8, 0xff, 0x7f), row(0, 0, 0x40),
		row(7, 0, 0x80), row(0, 0, 0xc0), row(8, 0, 0), row(0xf8, 0xff, 0x3f),
		{1}, {2}, {4}, {9}, keyOf(firstPrivate), keyOf(secondPrivate),
	}
	return append(keys, drawnKeys(90, 10)...)
}

func thePrime() *big.Int {
	p := new(big.Int).Lsh(big.NewInt(1), 255)
	return p.Sub(p, big.NewInt(19))
}

// number goes by the chapter's words: the lowest byte first.
func number(k api.Key) *big.Int {
	out := new(big.Int)
	for i := len(k) - 1; i >= 0; i-- {
		out.Lsh(out, 8).Add(out, big.NewInt(int64(k[i])))
	}
	return out
}

// keyOfNumber is the one that stands for x, which may be beyond p but not beyond 32 bytes.
func keyOfNumber(x *big.Int) (k api.Key) {
	x.FillBytes(k[:])
	for i := range 16 {
		k[i], k[31-i] = k[31-i], k[i]
	}
	return k
}

// aboutPrime is p and by more, or fewer.
func aboutPrime(by int64) api.Key { return keyOfNumber(new(big.Int).Add(thePrime(), big.NewInt(by))) }

// somePublic are the edges that the chapter names of public keys, but the weak ones; each with the highest bit set and not.
func somePublic() []api.Key {
	keys := []api.Key{{2}, {3}, {9}, aboutPrime(-3), aboutPrime(-2), aboutPrime(2), aboutPrime(9), aboutPrime(18), keyOf(firstPublic), keyOf(secondPublic)}
	keys = append(keys, drawnKeys(91, 5)...)
	for _, k := range keys {
		k[31] ^= 0x80
		keys = append(keys, k)
	}
	return keys
}

func weakOnes() []api.Key {
	return []api.Key{
		{}, {1}, aboutPrime(-1), aboutPrime(0), aboutPrime(1),
		keyOf("e0eb7a7c 3b41b8ae 1656e3fa f19fc46a da098deb 9c32b1fd 86620516 5f49b800"),
		keyOf("5f9c95bc a3508c24 b1d0b155 9c83ef5b 04445cc4 581c8e86 d8224edd d09f1157"),
	}
}

// wantedClamp goes by the chapter's words, bit by bit.
func wantedClamp(k api.Key) api.Key {
	n := number(k)
	for _, bit := range []int{0, 1, 2, 255} {
		n.SetBit(n, bit, 0)
	}
	return keyOfNumber(n.SetBit(n, 254, 1))
}

func sum(x, y *big.Int) *big.Int { return modulo(new(big.Int).Add(x, y)) }

func less(x, y *big.Int) *big.Int { return modulo(new(big.Int).Sub(x, y)) }

func times(x, y *big.Int) *big.Int { return modulo(new(big.Int).Mul(x, y)) }

func modulo(x *big.Int) *big.Int { return x.Mod(x, thePrime()) }

// wantedMul goes by the chapter's words, in the library's big numbers.
func wantedMul(k, u api.Key) api.Key {
	n, x1 := number(wantedClamp(k)), number(u)
	modulo(x1.SetBit(x1, 255, 0))
	x2, z2, x3, z3 := big.NewInt(1), big.NewInt(0), x1, big.NewInt(1)
	for t := 254; t >= 0; t-- {
		if n.Bit(t) == 1 {
			x2, x3, z2, z3 = x3, x2, z3, z2
		}
		a, b, c, d := sum(x2, z2), less(x2, z2), sum(x3, z3), less(x3, z3)
		aa, bb, da, cb := times(a, a), times(b, b), times(d, a), times(c, b)
		e := less(aa, bb)
		x3, z3 = times(sum(da, cb), sum(da, cb)), times(x1, times(less(da, cb), less(da, cb)))
		x2, z2 = times(aa, bb), times(e, sum(aa, times(big.NewInt(121665), e)))
		if n.Bit(t) == 1 {
			x2, x3, z2, z3 = x3, x2, z3, z2
		}
	}
	power := new(big.Int).Sub(thePrime(), big.NewInt(2))
	return keyOfNumber(times(x2, new(big.Int).Exp(z2, power, thePrime())))
}

// wantedAgree asks the library's X25519, which refuses weak ones.
func wantedAgree(t *testing.T, own, other api.Key) (api.Key, uint64) {
	t.Helper()
	private, err := ecdh.X25519().NewPrivateKey(own[:])
	if err != nil {
		t.Fatal(err)
	}
	public, err := ecdh.X25519().NewPublicKey(other[:])
	if err != nil {
		t.Fatal(err)
	}
	secret, err := private.ECDH(public)
	if err != nil {
		return api.Key{}, 0
	}
	return api.Key(secret), yes
}

// P9.1, P9.5: every bit at its place; what is clamped stays as it is.
func TestClamp(t *testing.T) {
	keys := someKeys()
	for bit := range 256 {
		var one api.Key
		one[bit/8] = 1 << (bit % 8)
		others := row(0xff, 0xff, 0xff)
		others[bit/8] ^= one[bit/8]
		keys = append(keys, one, others)
	}
	for _, k := range keys {
		clamped := Clamp(k)
		checkKey(t, "Clamp", clamped, wantedClamp(k))
		checkKey(t, "Clamp of what is clamped", Clamp(clamped), clamped)
	}
}

// P9.1: every edge of the private keys meets every edge of the public ones.
func TestMul(t *testing.T) {
	for _, k := range someKeys() {
		for _, u := range somePublic() {
			checkKey(t, "Mul", Mul(k, u), wantedMul(k, u))
		}
	}
}

// P9.1: every bit of a private key counts, but those that are clamped; the same of a public one.
func TestMulBits(t *testing.T) {
	for bit := range 256 {
		k, u := keyOf(firstPrivate), keyOf(firstPublic)
		k[bit/8] ^= 1 << (bit % 8)
		checkKey(t, "Mul", Mul(k, u), wantedMul(k, u))
		k, u = keyOf(firstPrivate), keyOf(firstPublic)
		u[bit/8] ^= 1 << (bit % 8)
		checkKey(t, "Mul", Mul(k, u), wantedMul(k, u))
	}
}

// P9.1: the public key of k, as the library has it, too.
func TestBase(t *testing.T) {
	for _, k := range append(someKeys(), drawnKeys(92, 50)...) {
		private, err := ecdh.X25519().NewPrivateKey(k[:])
		if err != nil {
			t.Fatal(err)
		}
		checkKey(t, "Base", Base(k), api.Key(private.PublicKey().Bytes()))
		checkKey(t, "Mul by 9", Mul(k, api.Key{9}), Base(k))
	}
}

// P9.1: the keys of RFC 7748, 5.2 and 6.1, that the chapter's table leaves out.
func TestPublishedKeys(t *testing.T) {
	k := keyOf("4b66e9d4 d1b4673c 5ad22691 957d6af5 c11b6421 e0ea01d4 2ca4169e 7918ba0d")
	u := keyOf("e5210f12 786811d3 f4b7959d 0538ae2c 31dbe710 6fc03c3e fc4cd549 c715a493")
	checkKey(t, "5.2", Mul(k, u), keyOf("95cbde94 76e8907d 7aade45c b4b873f8 8b595a68 799fa152 e6f8f764 7aac7957"))

	a := keyOf("77076d0a 7318a57d 3c16c172 51b26645 df4c2f87 ebc0992a b177fba5 1db92c2a")
	public := keyOf("8520f009 8930a754 748b7ddc b43ef75a 0dbf3a0d 26381af4 eba4a98e aa9b4e6a")
	secret := keyOf("4a5d9d5b a4ce2de1 728e3bf4 80350f25 e07e21c9 47d19e33 76f09b3c 1e161742")
	checkKey(t, "6.1, the public key", Base(a), public)
	checkKey(t, "6.1, the secret", Mul(a, keyOf(secondPublic)), secret)
	checkKey(t, "6.1, the other one's secret", Mul(keyOf(secondPrivate), public), secret)
}

// P9.2: of strong ones and of weak ones, as the library has it.
func TestAgree(t *testing.T) {
	for _, own := range someKeys() {
		for _, other := range append(somePublic(), weakOnes()...) {
			secret, strong := Agree(own, other)
			want, is := wantedAgree(t, own, other)
			checkKey(t, "Agree", secret, want)
			checkKey(t, "Mul", Mul(own, other), want)
			if strong != is {
				t.Fatalf("Agree(%x, %x) = %x, and %x, want %x", own, other, secret, strong, is)
			}
		}
	}
}

// inverseOf is the private key whose product takes that of own back, of the public keys that are multiples of 9: these have the order that is written here.
func inverseOf(own api.Key) api.Key {
	order, _ := new(big.Int).SetString("27742317777372353535851937790883648493", 10)
	order.Add(order, new(big.Int).Lsh(big.NewInt(1), 252))
	n := number(wantedClamp(own))
	n.ModInverse(n.Lsh(n, 3), order).Lsh(n, 3)
	if n.BitLen() < 255 {
		n.Sub(order.Lsh(order, 3), n) // its negative has the same products, and the bit that clamping sets
	}
	return keyOfNumber(n)
}

// P9.2: one byte that is not 0 is enough, wherever it stands.
func TestAgreeByOneByte(t *testing.T) {
	own := keyOf(firstPrivate)
	back := inverseOf(own)
	for at := range 32 {
		found := false
		for octet := 2; octet < 0x80 && !found; octet++ {
			var product api.Key
			product[at] = byte(octet)
			other, _ := wantedAgree(t, back, product)
			if again, _ := wantedAgree(t, own, other); again != product {
				continue // no multiple of 9
			}
			found = true
			secret, strong := Agree(own, other)
			checkKey(t, "Agree", secret, product)
			if strong != yes {
				t.Fatalf("Agree(%x, %x) = %x, and %x", own, other, secret, strong)
			}
		}
		if !found {
			t.Fatalf("no secret that is 0 but at %d", at)
		}
	}
}

// P9.4: of every public key, weak ones among them.
func TestTheyMeet(t *testing.T) {
	keys := append([]api.Key{{}, row(0xff, 0xff, 0xff), row(7, 0, 0xbf)}, drawnKeys(93, 4)...)
	for _, u := range append(somePublic(), weakOnes()...) {
		for i, a := range keys {
			for _, b := range keys[:i+1] {
				checkKey(t, "the other way", Mul(a, Mul(b, u)), Mul(b, Mul(a, u)))
			}
		}
	}
}

// P9.4: two who have each other's public key have one secret, and it is not weak.
func TestFriendsMeet(t *testing.T) {
	keys := someKeys()
	for i, a := range keys {
		for _, b := range keys[:i+1] {
			one, strong := Agree(a, Base(b))
			other, too := Agree(b, Base(a))
			checkKey(t, "the other one's secret", other, one)
			if strong != yes || too != yes || one == (api.Key{}) {
				t.Fatalf("%x and %x share %x, %x, %x", a, b, one, strong, too)
			}
		}
	}
}

// P9.5: what is clamped away, and the highest bit.
func TestWhatDoesNotCount(t *testing.T) {
	for _, k := range someKeys() {
		for _, u := range somePublic() {
			want := Mul(k, u)
			checkKey(t, "Mul of Clamp", Mul(Clamp(k), u), want)
			unclamped := Clamp(k)
			unclamped[0] |= 7
			unclamped[31] ^= 0xc0
			checkKey(t, "Mul of what would be clamped", Mul(unclamped, u), want)
			u[31] ^= 0x80
			checkKey(t, "Mul with the highest bit turned", Mul(k, u), want)
		}
	}
}

// P9.5: p to 2^255 - 1 count as 0 to 18.
func TestBeyondThePrime(t *testing.T) {
	for by := range int64(19) {
		for _, k := range append([]api.Key{{}, row(0xff, 0xff, 0xff)}, drawnKeys(94+by, 2)...) {
			checkKey(t, "Mul", Mul(k, aboutPrime(by)), Mul(k, api.Key{byte(by)}))
		}
	}
	checkKey(t, "2^255 - 1", aboutPrime(18), row(0xff, 0xff, 0x7f))
}

// P9.6, P9.2: of every private key, with the highest bit set and not.
func TestWeakOnes(t *testing.T) {
	for _, weak := range weakOnes() {
		for range 2 {
			for _, k := range append(someKeys(), drawnKeys(95, 20)...) {
				secret, strong := Agree(k, weak)
				checkKey(t, "Mul", Mul(k, weak), api.Key{})
				checkKey(t, "Agree", secret, api.Key{})
				if strong != 0 {
					t.Fatalf("Agree(%x, %x) is strong: %x", k, weak, strong)
				}
			}
			weak[31] ^= 0x80
		}
	}
}
