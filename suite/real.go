package suite

import (
	"tabularium/api"
	"tabularium/chacha"
	"tabularium/mac"
	"tabularium/pad"
	"tabularium/sha"
	"tabularium/vec"
)

const (
	// nonceMark, cipherMark and tagMark stand ahead of what a key is used for, so that no two uses meet.
	nonceMark  = 'n'
	cipherMark = 'e'
	tagMark    = 'm'
	// firstBlock is the counter from which a text is turned.
	firstBlock = 1
)

// realPrf is the HMAC of label and in (P7.2).
func realPrf(k api.Key, label byte, in []byte) api.Key {
	return api.Key(mac.Sum(k[:], []byte{label}, in))
}

// realId is SHA-256 of the text (P7.3).
func realId(text string) api.Id {
	return sha.Sum([]byte(text))
}

// realSeal is nonce, text and tag; the nonce hangs on all that is sealed, so that the same is sealed alike (P7.4).
func realSeal(k api.Key, ad, plain []byte) ([]byte, api.Errno) {
	padded, e := pad.Put(plain)
	if e != api.OK {
		return nil, e
	}
	nonce := nonceOf(k, ad, padded)
	c := chacha.Stream(useKey(k, cipherMark), firstBlock, nonce, padded)
	tag := tagOf(k, ad, nonce, c)
	out := make([]byte, 0, sealBytes+len(c))
	out = append(out, nonce[:]...)
	out = append(out, c...)
	return append(out, tag[:]...), api.OK
}

// realOpen is the text whose realSeal is ct, to the last byte (P7.5).
func realOpen(k api.Key, ad, ct []byte) ([]byte, api.Errno) {
	if !isSealedLength(len(ct)) {
		return nil, api.ErrAuth
	}
	nonce, tagAt := [nonceBytes]byte(ct), len(ct)-tagBytes
	c, tag := ct[nonceBytes:tagAt], ct[tagAt:]
	if right := tagOf(k, ad, nonce, c); !vec.Equal(right[:], tag) {
		return nil, api.ErrAuth
	}
	plain, e := pad.Of(chacha.Stream(useKey(k, cipherMark), firstBlock, nonce, c))
	if e != api.OK {
		return nil, api.ErrAuth
	}
	// Whoever has k can tag what Seal never answers; a text is to have one sealed form only.
	if again, e := realSeal(k, ad, plain); e != api.OK || !vec.Equal(again, ct) {
		return nil, api.ErrAuth
	}
	return plain, api.OK
}

// isSealedLength says whether a sealed text may have n bytes.
func isSealedLength(n int) bool {
	fits := false
lengths:
	for size := range pad.Buckets() {
		switch {
		case n == sealBytes+size:
			fits = true
			break lengths
		case n < sealBytes+size: // the further ones are longer still
			break lengths
		}
	}
	return fits
}

// nonceOf is the nonce that ad and the padded text have under k.
func nonceOf(k api.Key, ad, padded []byte) [nonceBytes]byte {
	sum := mac.Sum(k[:], []byte{nonceMark}, lengthOf(ad), ad, padded)
	return [nonceBytes]byte(sum[:nonceBytes])
}

// tagOf is the tag that ad, the nonce and the turned text have under k.
func tagOf(k api.Key, ad []byte, nonce [nonceBytes]byte, c []byte) api.Id {
	key := useKey(k, tagMark)
	return mac.Sum(key[:], lengthOf(ad), ad, nonce[:], c)
}

// useKey is the key that k gives for one use.
func useKey(k api.Key, mark byte) api.Key {
	return api.Key(mac.Sum(k[:], []byte{mark}))
}

// lengthOf is ad's length as 8 bytes, the lowest ahead: it tells where ad ends and what is behind it begins.
func lengthOf(ad []byte) []byte {
	n := uint64(len(ad))
	return vec.Bytes(uint32(n), uint32(n>>32))
}
