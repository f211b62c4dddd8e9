package codec

import (
	"bytes"
	"slices"
	"testing"

	"tryst/api"
)

// What each call that parses answers, held to what it should.

func checkConfig(t *testing.T, b []byte, want api.Config) {
	t.Helper()
	c, err := ParseConfig(b)
	if err != api.OK || c != want {
		t.Fatalf("ParseConfig(% x) = %v, %d, want %v", b, c, err, want)
	}
}

func checkNoConfig(t *testing.T, b []byte, want api.Errno) {
	t.Helper()
	c, err := ParseConfig(b)
	if err != want || c != (api.Config{}) {
		t.Fatalf("ParseConfig(% x) = %v, %d, want the error %d", b, c, err, want)
	}
}

func checkTalk(t *testing.T, c api.Config, b []byte, wantDrop api.Drop, want []byte) {
	t.Helper()
	d, message, err := ParseTalk(c, b)
	if err != api.OK || d != wantDrop || !bytes.Equal(message, want) {
		t.Fatalf("ParseTalk(% x) = % x, % x, %d", b, d, message, err)
	}
}

func checkNoTalk(t *testing.T, c api.Config, b []byte, want api.Errno) {
	t.Helper()
	d, message, err := ParseTalk(c, b)
	if err != want || d != (api.Drop{}) || len(message) > 0 {
		t.Fatalf("ParseTalk of %d bytes = % x, % x, %d, want the error %d", len(b), d, message, err, want)
	}
}

func checkReply(t *testing.T, c api.Config, b []byte, wantThere bool, want []byte) {
	t.Helper()
	there, message, err := ParseReply(c, b)
	if err != api.OK || there != wantThere || !bytes.Equal(message, want) {
		t.Fatalf("ParseReply(% x) = %v, % x, %d", b, there, message, err)
	}
}

func checkNoReply(t *testing.T, c api.Config, b []byte, want api.Errno) {
	t.Helper()
	there, message, err := ParseReply(c, b)
	if err != want || there || len(message) > 0 {
		t.Fatalf("ParseReply(% x) = %v, % x, %d, want the error %d", b, there, message, err, want)
	}
}

func checkDial(t *testing.T, c api.Config, b []byte, wantBucket int, want []byte) {
	t.Helper()
	bucket, invite, err := ParseDial(c, b)
	if err != api.OK || bucket != wantBucket || !bytes.Equal(invite, want) {
		t.Fatalf("ParseDial(% x) = %d, % x, %d", b, bucket, invite, err)
	}
}

func checkNoDial(t *testing.T, c api.Config, b []byte, want api.Errno) {
	t.Helper()
	bucket, invite, err := ParseDial(c, b)
	if err != want || bucket != 0 || len(invite) > 0 {
		t.Fatalf("ParseDial(% x) = %d, % x, %d, want the error %d", b, bucket, invite, err, want)
	}
}

func checkFrame(t *testing.T, b []byte, wantBucket int, want [][]byte) {
	t.Helper()
	bucket, invites, err := ParseFrame(b)
	if err != api.OK || bucket != wantBucket || !slices.EqualFunc(invites, want, bytes.Equal) {
		t.Fatalf("ParseFrame of %d bytes = %d, %d invitations, %d, want %d, %d", len(b), bucket, len(invites), err, wantBucket, len(want))
	}
}

func checkNoFrame(t *testing.T, b []byte) {
	t.Helper()
	bucket, invites, err := ParseFrame(b)
	if err != api.ErrFrame || bucket != 0 || len(invites) > 0 {
		t.Fatalf("ParseFrame of the %d bytes % x .. = %d, %d invitations, %d", len(b), b[:min(len(b), 12)], bucket, len(invites), err)
	}
}
