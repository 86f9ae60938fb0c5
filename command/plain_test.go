package command_test

import (
	"encoding/binary"
	"fmt"
	"hash/crc32"
	"math"
	"slices"
	"strings"
	"testing"

	"carillon/api"
	"carillon/command"
)

// great is 2^53 - 1.
const great = 9007199254740991

func long(n uint64) string        { return string(binary.BigEndian.AppendUint64(nil, n)) }
func four(n uint32) string        { return string(binary.BigEndian.AppendUint32(nil, n)) }
func text(s string) string        { return four(uint32(len(s))) + s }
func size(s string, n int) string { return strings.Repeat(s, n) }

// framed is a frame as chapter 2 tells it.
func framed(body string) string {
	length := four(uint32(len(body)))
	return length + four(crc32.Checksum([]byte(length+body), crc32.MakeTable(crc32.Castagnoli))) + body
}

// plainCode is that of a command as the chapter tells it, right or not.
func plainCode(c api.Command) string {
	return string([]byte{byte(c.Kind)}) + text(c.Topic) + text(c.Name) + long(uint64(c.Seq)) + text(c.Key) + text(c.Value) +
		long(uint64(c.N+1)) + string([]byte{byte(c.Node)}) + long(uint64(c.Ask))
}

// plainRecord is a record's part of a reply's code, right or not.
func plainRecord(r api.Record) string {
	return long(uint64(r.Offset)) + text(r.Producer) + long(uint64(r.Seq)) + text(r.Key) + text(r.Value)
}

// plainReply is the code of a reply as the chapter tells it, right or not.
func plainReply(ask int, r api.Reply) string {
	s := long(uint64(ask)) + string([]byte{byte(r.Code)}) + long(uint64(r.N+1))
	for _, x := range r.Records {
		s += plainRecord(x)
	}
	return s
}

// has are the fields that a command has which are not nothing, a letter each: those of the chapter's table.
func has(c api.Command) string {
	s := ""
	for _, x := range []struct {
		letter string
		there  bool
	}{{"t", c.Topic != ""}, {"n", c.Name != ""}, {"s", c.Seq != 0}, {"k", c.Key != ""}, {"v", c.Value != ""}, {"N", c.N != 0}} {
		if x.there {
			s += x.letter
		}
	}
	return s
}

// row is what the chapter's table says of a Kind: the words and the other fields that it has, and what N may be.
func row(kind int) (words, others string, least, most int) {
	switch kind {
	case api.CCreate:
		return "t", "", 0, 0
	case api.CPublish:
		return "tn", "skv", 0, 0
	case api.CSubscribe:
		return "tn", "N", -1, great
	case api.CAttach:
		return "n", "", 0, 0
	case api.CPoll:
		return "n", "N", 1, 50
	case api.CAck, api.CSeek:
		return "n", "N", 0, great
	case api.CTrim, api.CCompact:
		return "t", "N", 0, great
	case api.CJoin, api.CLeave:
		return "", "N", 0, 6
	}
	return "", "", 1, 0
}

const wordBytes = "abcdefghijklmnopqrstuvwxyz0123456789"

func plainWord(s string) bool {
	for _, b := range []byte(s) {
		if strings.IndexByte(wordBytes, b) < 0 {
			return false
		}
	}
	return len(s) >= 1 && len(s) <= 20
}

// plainRight is Right as the chapter tells it: what is there is what the Kind's row names, and that is as it must be.
func plainRight(c api.Command) bool {
	words, others, least, most := row(c.Kind)
	for _, x := range has(c) {
		if !strings.ContainsRune(words+others, x) {
			return false
		}
	}
	if strings.Contains(words, "t") && !plainWord(c.Topic) || strings.Contains(words, "n") && !plainWord(c.Name) {
		return false
	}
	return c.N >= least && c.N <= most && c.Seq >= 0 && c.Seq <= great && len(c.Key) <= 100 && len(c.Value) <= 1000 &&
		c.Node >= 0 && c.Node <= 6 && c.Ask >= 0 && c.Ask <= great
}

func plainRecordRight(r api.Record) bool {
	return r.Offset >= 0 && r.Offset <= great && r.Seq >= 0 && r.Seq <= great && len(r.Producer) <= 20 && len(r.Key) <= 100 && len(r.Value) <= 1000
}

func plainReplyRight(ask int, r api.Reply) bool {
	wrong := slices.ContainsFunc(r.Records, func(x api.Record) bool { return !plainRecordRight(x) })
	return ask >= 0 && ask <= great && r.Code >= 0 && r.Code <= 255 && r.N >= -1 && r.N <= great && len(r.Records) <= 50 && !wrong
}

// reader takes bytes off a text, and notes where it ends too early or a text is too long.
type reader struct {
	rest  string
	fault api.Errno
}

func (r *reader) number(n int) uint64 {
	if r.fault != api.OK {
		return 0
	}
	if len(r.rest) < n {
		r.fault = api.ErrShort
		return 0
	}
	var out uint64
	for _, b := range []byte(r.rest[:n]) {
		out = out<<8 | uint64(b)
	}
	r.rest = r.rest[n:]
	return out
}

func (r *reader) text() string {
	n := r.number(4)
	if r.fault == api.OK && n > 100000 {
		r.fault = api.ErrLong
	}
	if r.fault == api.OK && uint64(len(r.rest)) < n {
		r.fault = api.ErrShort
	}
	if r.fault != api.OK {
		return ""
	}
	s := r.rest[:n]
	r.rest = r.rest[n:]
	return s
}

// bounded holds a long against its bound, so that it may be an int; one that is beyond it is none.
func (r *reader) bounded(most uint64, wrong *bool) int {
	n := r.number(8)
	if n > most {
		*wrong = true
		return 0
	}
	return int(n)
}

// plainDecode is Decode as the chapter tells it.
func plainDecode(s string) (api.Command, api.Errno) {
	r := &reader{rest: s}
	wrong := false
	c := api.Command{Kind: int(r.number(1)), Topic: r.text(), Name: r.text(), Seq: r.bounded(great, &wrong), Key: r.text(), Value: r.text()}
	c.N = r.bounded(great+1, &wrong) - 1
	c.Node, c.Ask = int(r.number(1)), r.bounded(great, &wrong)
	switch {
	case r.fault != api.OK:
		return api.Command{}, r.fault
	case r.rest != "" || wrong || !plainRight(c):
		return api.Command{}, api.ErrForm
	}
	return c, api.OK
}

// plainTake is the one frame that s is.
func plainTake(s string) (string, api.Errno) {
	r := &reader{rest: s}
	length := r.number(4)
	switch {
	case r.fault != api.OK:
		return "", r.fault
	case length > 400000:
		return "", api.ErrLong
	case uint64(len(s)) < 8+length:
		return "", api.ErrShort
	case framed(s[8:8+length]) != s[:8+length]:
		return "", api.ErrSum
	case uint64(len(s)) > 8+length:
		return "", api.ErrForm
	}
	return s[8:], api.OK
}

// plainAsked is Asked as the chapter tells it.
func plainAsked(s string) (api.Command, api.Errno) {
	body, fault := plainTake(s)
	if fault != api.OK {
		return api.Command{}, fault
	}
	if c, fault := plainDecode(body); fault == api.OK && c.Node == 0 {
		return c, api.OK
	}
	return api.Command{}, api.ErrForm
}

// plainAnswered is Answered as the chapter tells it.
func plainAnswered(s string) (int, api.Reply, api.Errno) {
	body, fault := plainTake(s)
	if fault != api.OK {
		return 0, api.Reply{}, fault
	}
	r := &reader{rest: body}
	wrong := false
	ask := r.bounded(great, &wrong)
	reply := api.Reply{Code: int(r.number(1)), N: r.bounded(great+1, &wrong) - 1}
	for r.rest != "" && r.fault == api.OK {
		x := api.Record{Offset: r.bounded(great, &wrong), Producer: r.text(), Seq: r.bounded(great, &wrong), Key: r.text(), Value: r.text()}
		reply.Records = append(reply.Records, x)
	}
	if r.fault != api.OK || wrong || !plainReplyRight(ask, reply) {
		return 0, api.Reply{}, api.ErrForm
	}
	return ask, reply, api.OK
}

// farBelow are below -1, farBeyond above 2^53 - 1.
func farBelow() []int  { return []int{-2, -3, math.MinInt + 1, math.MinInt} }
func farBeyond() []int { return []int{great + 1, great + 2, 1 << 62, math.MaxInt - 1, math.MaxInt} }

// longsBeyond are longs that are past 2^53.
func longsBeyond() []uint64 {
	return []uint64{1<<53 + 1, 1<<53 + 2, 1 << 54, 1<<62 + 1, 1<<63 - 1, 1 << 63, 1<<63 + 1, 1<<63 + 2, math.MaxUint64 - 1, math.MaxUint64}
}

// shown keeps a failure's lines short.
func shown(x any) string {
	s := fmt.Sprintf("%+v", x)
	if len(s) > 300 {
		return fmt.Sprintf("%s .. (%d bytes)", s[:300], len(s))
	}
	return s
}

func sameReply(a, b api.Reply) bool {
	return a.Code == b.Code && a.N == b.N && slices.Equal(a.Records, b.Records)
}

func wantRight(t *testing.T, c api.Command, want bool) {
	t.Helper()
	if command.Right(c) != want {
		t.Errorf("Right(%s): %v", shown(c), !want)
	}
}

func wantEncode(t *testing.T, c api.Command, want string, fault api.Errno) {
	t.Helper()
	if s, e := command.Encode(c); s != want || e != fault {
		t.Errorf("Encode(%s): %.80x, %d; want %.80x, %d", shown(c), s, e, want, fault)
	}
}

func wantDecode(t *testing.T, s string, want api.Command, fault api.Errno) {
	t.Helper()
	if c, e := command.Decode(s); c != want || e != fault {
		t.Errorf("Decode(%.80x, of %d bytes): %s, %d; want %s, %d", s, len(s), shown(c), e, shown(want), fault)
	}
}

func wantRequest(t *testing.T, c api.Command, want string, fault api.Errno) {
	t.Helper()
	if s, e := command.Request(c); s != want || e != fault {
		t.Errorf("Request(%s): %.80x, %d; want %.80x, %d", shown(c), s, e, want, fault)
	}
}

func wantAsked(t *testing.T, s string, want api.Command, fault api.Errno) {
	t.Helper()
	if c, e := command.Asked(s); c != want || e != fault {
		t.Errorf("Asked(%.80x, of %d bytes): %s, %d; want %s, %d", s, len(s), shown(c), e, shown(want), fault)
	}
}

func wantAnswer(t *testing.T, ask int, r api.Reply, want string, fault api.Errno) {
	t.Helper()
	if s, e := command.Answer(ask, r); s != want || e != fault {
		t.Errorf("Answer(%d, %s): %.80x, %d; want %.80x, %d", ask, shown(r), s, e, want, fault)
	}
}

func wantAnswered(t *testing.T, s string, ask int, want api.Reply, fault api.Errno) {
	t.Helper()
	if n, r, e := command.Answered(s); n != ask || !sameReply(r, want) || e != fault {
		t.Errorf("Answered(%.80x, of %d bytes): %d, %s, %d; want %d, %s, %d", s, len(s), n, shown(r), e, ask, shown(want), fault)
	}
}

// wantAll holds a command at all calls against the plain ones.
func wantAll(t *testing.T, c api.Command, right bool) {
	t.Helper()
	wantRight(t, c, right)
	code, frame := plainCode(c), framed(plainCode(c))
	if !right {
		wantEncode(t, c, "", api.ErrArg)
		wantRequest(t, c, "", api.ErrArg)
		if c.Kind == int(byte(c.Kind)) && c.Node == int(byte(c.Node)) { // others have no code
			fault := api.ErrForm
			if max(len(c.Topic), len(c.Name), len(c.Key), len(c.Value)) > 100000 {
				fault = api.ErrLong
			}
			wantDecode(t, code, api.Command{}, fault)
			wantAsked(t, frame, api.Command{}, api.ErrForm)
		}
		return
	}
	wantEncode(t, c, code, api.OK)
	wantDecode(t, code, c, api.OK)
	if c.Node != 0 {
		wantRequest(t, c, "", api.ErrArg)
		wantAsked(t, frame, api.Command{}, api.ErrForm)
		return
	}
	wantRequest(t, c, frame, api.OK)
	wantAsked(t, frame, c, api.OK)
}

// wantAllOf holds a reply at both calls against the plain ones.
func wantAllOf(t *testing.T, ask int, r api.Reply, right bool) {
	t.Helper()
	frame := framed(plainReply(ask, r))
	if right {
		wantAnswer(t, ask, r, frame, api.OK)
		wantAnswered(t, frame, ask, r, api.OK)
		return
	}
	wantAnswer(t, ask, r, "", api.ErrArg)
	if r.Code == int(byte(r.Code)) { // others have no code
		wantAnswered(t, frame, 0, api.Reply{}, api.ErrForm)
	}
}
