package ladder

import (
	"encoding/hex"
	"strings"
	"testing"

	"tryst/api"
)

const yes = ^uint64(0)

// keyOf takes hexadecimal digits, between which there may be blanks.
func keyOf(digits string) api.Key {
	b, err := hex.DecodeString(strings.Join(strings.Fields(digits), ""))
	if err != nil {
		panic(err)
	}
	return api.Key(b)
}

// row has the first byte, 30 of the middle one, and the last.
func row(first, middle, last byte) api.Key {
	var k api.Key
	for i := range k {
		k[i] = middle
	}
	k[0], k[31] = first, last
	return k
}

func checkKey(t *testing.T, what string, got, want api.Key) {
	t.Helper()
	if got != want {
		t.Fatalf("%s = %x, want %x", what, got, want)
	}
}

// The chapter's table of examples, row by row.

const (
	firstPrivate  = "a546e36b f0527c9d 3b16154b 82465edd 62144c0a c1fc5a18 506a2244 ba449ac4"
	firstPublic   = "e6db6867 583030db 3594c1a4 24b15f7c 726624ec 26b3353b 10a903a6 d0ab1c4c"
	firstProduct  = "c3da5537 9de9c690 8e94ea4d f28d084f 32eccf03 491c71f7 54b40755 77a28552"
	secondPrivate = "5dab087e 624a8a4b 79e17f8b 83800ee6 6f3bb129 2618b6fd 1c2f8b27 ff88e0eb"
	secondPublic  = "de9edb7d 7b7dc1b4 d35b61c2 ece43537 3f8343c8 5b78674d adfc7e14 6f882b4f"
)

func TestExamplesOfProducts(t *testing.T) {
	checkKey(t, "Mul", Mul(keyOf(firstPrivate), keyOf(firstPublic)), keyOf(firstProduct))
	checkKey(t, "Base", Base(keyOf(secondPrivate)), keyOf(secondPublic))
	checkKey(t, "Mul of 9 and 9", Mul(api.Key{9}, api.Key{9}), keyOf("422c8e7a 6227d7bc a1350b3e 2bb7279f 7897b87b b6854b78 3c60e803 11ae3079"))
	checkKey(t, "both ways", Mul(keyOf(firstPrivate), Base(keyOf(secondPrivate))), Mul(keyOf(secondPrivate), Base(keyOf(firstPrivate))))
}

func TestExampleOfAThousand(t *testing.T) {
	k, u := api.Key{9}, api.Key{9}
	for range 1000 {
		k, u = Mul(k, u), k
	}
	checkKey(t, "a thousand times", k, keyOf("684cf59b a8330955 2800ef56 6f2f4d3c 1c3887c4 9360e387 5f2eb94d 99532c51"))
}

func TestExamplesOfClamp(t *testing.T) {
	checkKey(t, "Clamp of ff", Clamp(row(0xff, 0xff, 0xff)), row(0xf8, 0xff, 0x7f))
	checkKey(t, "Clamp of 00", Clamp(api.Key{}), row(0, 0, 0x40))
}

func TestExamplesOfAgree(t *testing.T) {
	for _, own := range someKeys() {
		for _, other := range []api.Key{{}, {1}} {
			secret, strong := Agree(own, other)
			checkKey(t, "Agree", secret, api.Key{})
			if strong != 0 {
				t.Fatalf("Agree(%x, %x) is strong: %x", own, other, strong)
			}
		}
	}
}

func TestExamplesOfAgrees(t *testing.T) {
	own, three := keyOf(firstPrivate), []api.Key{{9}, {}, keyOf(firstPublic)}
	secrets, strong, err := Agrees(own, nil, 1)
	if err != api.OK || len(secrets) != 0 || len(strong) != 0 {
		t.Fatalf("Agrees with none = %x, %x, %d", secrets, strong, err)
	}
	for _, workers := range []int{0, 17} {
		secrets, strong, err = Agrees(own, three, workers)
		if err != api.ErrArg || secrets != nil || strong != nil {
			t.Fatalf("Agrees by %d = %x, %x, %d", workers, secrets, strong, err)
		}
	}
}
