package tag

import (
	"strongroom/api"
	"strongroom/octet"
)

const (
	paramsSize  = 6                         // bytes of the part of a key that tells K, N and Seg
	maxShapeSeg = api.MaxSeg + api.MaxN - 1 // a shape rounds the Seg that is asked for up to a multiple of K, which is at most MaxN
)

// Key gives the key of a file.
func Key(secret []byte, k, n, seg int, file []byte) (api.Key, api.Errno) {
	if len(secret) > api.MaxSecret || k < 1 || k > n || n > api.MaxN || seg < 1 || seg > maxShapeSeg {
		return api.Key{}, api.ErrParams
	}
	if len(file) > api.MaxFile {
		return api.Key{}, api.ErrSize
	}
	params := octet.Join([]byte{byte(k), byte(n)}, octet.Big(uint32(seg)))
	d := of(api.TagKey, secret, params, file)
	return api.Key(d[:len(api.Key{})]), api.OK
}

// Index gives what the shares of a key's file are kept under.
func Index(k api.Key) api.Index {
	d := of(api.TagIndex, k[:])
	return api.Index(d[:len(api.Index{})])
}

// Block gives a block's digest.
func Block(b []byte) api.Digest { return of(api.TagBlock, b) }

// Segment gives a segment's digest.
func Segment(b []byte) api.Digest { return of(api.TagSegment, b) }

// Root gives the leaf of a share's block root.
func Root(d api.Digest) api.Digest { return of(api.TagRoot, d[:]) }

// Node gives the digest above two nodes.
func Node(left, right api.Digest) api.Digest { return of(api.TagNode, left[:], right[:]) }

// Pad gives the leaf of a number that stands for none.
func Pad(leaf uint32) api.Digest { return of(api.TagPad, octet.Big(leaf)) }

// Ueb gives the digest of a Ueb's bytes.
func Ueb(b []byte) api.Digest { return of(api.TagUeb, b) }

// Ring gives a server's digest for an index.
func Ring(i api.Index, server uint32) api.Digest {
	return of(api.TagRing, i[:], octet.Big(server))
}

// of gives the digest of parts that the tag surely has, so that there is no error to tell.
func of(t api.Tag, parts ...[]byte) api.Digest {
	d, _ := Digest(t, parts...)
	return d
}
