package tests

import (
	"encoding/base64"
	"fmt"
	"slices"
	"strings"
	"testing"

	"loop.example/g00447/impl"
)

// wantPlace is the place of the part that a path tells, by the other reader of parts; below 0 where there is none.
func wantPlace(data string, path []int64) int64 {
	at := int64(0)
	for _, number := range path {
		at = int64(slices.IndexFunc(wantParts(data), func(p impl.Part) bool { return p.Up == at && p.Number == number }))
		if at < 0 {
			return -1
		}
	}
	return at
}

// wantFetched tells what is seen of a message by the other readers.
func wantFetched(data string, c impl.Cmd) string {
	var text string
	var code int64
	var codes []int64
	place := wantPlace(data, c.Path)
	switch c.What {
	case impl.WhatSize:
		return fmt.Sprint("size ", len(data))
	case impl.WhatPreview:
		codes, code = wantPreview(data)
		text = charsOf(codes)
	case impl.WhatSubject:
		codes, code = wantSubject(data)
		text = charsOf(codes)
	case impl.WhatBody:
		if place >= 0 {
			part := wantParts(data)[place]
			text = data[part.From:part.To]
		}
	case impl.WhatBytes:
		text, code = wantView(data, place)
	case impl.WhatText:
		text, code = wantConverted(data, place, impl.CsUtf8)
	}
	if c.What >= 3 && c.What <= 5 && place < 0 {
		code = impl.ErrNone
	}
	if code != impl.OK {
		return fmt.Sprint(whatWords[c.What], " ! ", code)
	}
	return whatWords[c.What] + " " + base64.StdEncoding.EncodeToString([]byte(text))
}

func wantFetchText(data []byte, c impl.Cmd) impl.TextResult {
	fault := wantCmdFault(c)
	code := firstCode(asked{fault != 0, fault}, asked{c.Kind != 11 || c.What == 1, impl.ErrForm}, asked{len(data) > 400, impl.ErrMany})
	if code != impl.OK {
		return impl.TextResult{Code: code}
	}
	return impl.TextResult{Text: wantFetched(string(data), c)}
}

func askFetch(t *testing.T, data string, c impl.Cmd) impl.TextResult {
	t.Helper()
	got, want := impl.FetchText([]byte(data), c), wantFetchText([]byte(data), c)
	askText(t, fmt.Sprintf("%d %v of %.500q", c.What, c.Path, data), got, want.Code, want.Text)
	return got
}

// fetchPaths are paths that there are in some messages, and others.
func fetchPaths() [][]int64 {
	return append(slices.Clone(deepPaths), []int64{4}, []int64{9}, []int64{1, 3}, []int64{2, 1}, []int64{1, 2, 1}, []int64{9, 9, 9})
}

func TestWhatIsFetchedByHand(t *testing.T) {
	latin, other := textOf("iso-8859-1", "quoted-printable", "=E4 b"), "Content-Type: image/x\nContent-Transfer-Encoding: base64\n\nw6Q="
	letter := "Subject: =?iso-8859-1?Q?=E4?=\n" + multi("b", latin, other)
	for _, by := range []struct {
		data string
		what int64
		path []int64
		want string
	}{
		{"\nHi", impl.WhatBody, nil, "body SGk="}, {"\nHi", impl.WhatBytes, nil, "bytes SGk="}, {"\nHi", impl.WhatText, nil, "text SGk="}, {"\nHi", impl.WhatSize, nil, "size 3"}, {"\nHi", impl.WhatPreview, nil, "preview SGk="}, {"\nHi", impl.WhatSubject, nil, "subject ! 4"},
		{"", impl.WhatSize, nil, "size 0"}, {strings.Repeat("\n", 400), impl.WhatSize, nil, "size 400"}, {"Hi", impl.WhatSize, nil, "size 2"},
		// letters that tell no bytes
		{"", impl.WhatBody, nil, "body "}, {"\n", impl.WhatBody, nil, "body "}, {"\n", impl.WhatBytes, nil, "bytes "}, {"\n", impl.WhatText, nil, "text "}, {"\n", impl.WhatPreview, nil, "preview "}, {"Subject:\n\n", impl.WhatSubject, nil, "subject "},
		// what is told in letters, and in another charset
		{latin, impl.WhatBody, nil, "body PUU0IGI="}, {latin, impl.WhatBytes, nil, "bytes 5CBi"}, {latin, impl.WhatText, nil, "text w6QgYg=="}, {latin, impl.WhatPreview, nil, "preview w6QgYg=="},
		{letter, impl.WhatBody, []int64{1}, "body PUU0IGI="}, {letter, impl.WhatBytes, []int64{1}, "bytes 5CBi"}, {letter, impl.WhatText, []int64{1}, "text w6QgYg=="},
		{letter, impl.WhatBody, []int64{2}, "body dzZRPQ=="}, {letter, impl.WhatBytes, []int64{2}, "bytes w6Q="}, {letter, impl.WhatSubject, nil, "subject w6Q="}, {letter, impl.WhatPreview, nil, "preview w6QgYg=="},
		// parts that there are not
		{"\nHi", impl.WhatBody, []int64{1}, "body ! 4"}, {"\nHi", impl.WhatBytes, []int64{9, 9, 9}, "bytes ! 4"}, {letter, impl.WhatText, []int64{3}, "text ! 4"}, {letter, impl.WhatText, []int64{1, 1}, "text ! 4"}, {letter, impl.WhatBody, []int64{2, 1}, "body ! 4"},
		// what cannot be seen
		{letter, impl.WhatText, nil, "text ! 1"}, {letter, impl.WhatText, []int64{2}, "text ! 1"}, {other, impl.WhatPreview, nil, "preview ! 4"}, {"a", impl.WhatText, nil, "text ! 1"}, {"a", impl.WhatSubject, nil, "subject ! 1"}, {"a", impl.WhatPreview, nil, "preview ! 4"}, {"a", impl.WhatBody, nil, "body YQ=="},
		{textOf("", "base64", "!"), impl.WhatBytes, nil, "bytes ! 7"}, {textOf("", "base64", "!"), impl.WhatText, nil, "text ! 7"}, {textOf("", "base64", "!"), impl.WhatBody, nil, "body IQ=="}, {textOf("utf-7", "", "a"), impl.WhatText, nil, "text ! 4"}, {textOf("utf-8", "", "\xff"), impl.WhatText, nil, "text ! 8"},
		{textOf("iso-8859-1", "", strings.Repeat("\xe4", 201)), impl.WhatText, nil, "text ! 2"}, {textOf("iso-8859-1", "", strings.Repeat("\xe4", 200)), impl.WhatText, nil, "text " + base64.StdEncoding.EncodeToString([]byte(strings.Repeat("ä", 200)))},
		{"Subject: " + strings.Repeat("\xff", 120) + "\n\n", impl.WhatSubject, nil, "subject " + base64.StdEncoding.EncodeToString([]byte(strings.Repeat("\ufffd", 120)))},
		{"\n" + strings.Repeat("x", 399), impl.WhatBody, nil, "body " + base64.StdEncoding.EncodeToString([]byte(strings.Repeat("x", 399)))},
	} {
		c := fetchCmd(by.what, by.path...)
		askText(t, fmt.Sprintf("%d %v of %q", by.what, by.path, by.data), impl.FetchText([]byte(by.data), c), impl.OK, by.want)
		askFetch(t, by.data, c)
	}
}

func TestWhatIsFetchedIsWhatIsSeen(t *testing.T) {
	missed := map[string]int{}
	for _, data := range slices.Concat(someMessages(), viewMessages(), []string{string(someBytes(399)), string(someBytes(400)), "\n" + string(someBytes(399))}) {
		for what := int64(impl.WhatSize); what <= impl.WhatSubject; what++ {
			paths := fetchPaths()
			if what < impl.WhatBody || what > impl.WhatText {
				paths = [][]int64{nil}
			}
			for _, path := range paths {
				c := fetchCmd(what, path...)
				missed[strings.TrimRight(askFetch(t, data, c).Text, "0123456789abcdefghijklmnopqrstuvwxyzABCDEFGHIJKLMNOPQRSTUVWXYZ+/=")]++
				// Whom a command is of, and which ranges it has, counts for nothing here.
				other := c
				other.Tag, other.Ranges = "zz9", ranges(8)
				askSame(t, textAnswer(data, impl.FetchText([]byte(data), other)), textAnswer(data, impl.FetchText([]byte(data), c)))
			}
		}
	}
	for _, begin := range []string{"body ", "body ! ", "bytes ", "bytes ! ", "text ", "text ! ", "preview ", "preview ! ", "subject ", "subject ! "} {
		if missed[begin] == 0 {
			t.Errorf("nothing that is fetched begins with %q", begin)
		}
	}
}

func TestWhatIsFetchedOfAPartIsWhatItsViewsTell(t *testing.T) {
	for _, data := range slices.Concat(someMessages(), viewMessages()) {
		for place := range impl.ParseParts([]byte(data)).Parts {
			path := impl.PathOf([]byte(data), int64(place)).List
			for what, seen := range map[int64]impl.BytesResult{
				impl.WhatBody: impl.BodyOf([]byte(data), int64(place)), impl.WhatBytes: impl.PartBytes([]byte(data), int64(place)), impl.WhatText: impl.ConvertPart([]byte(data), int64(place), impl.CsUtf8),
			} {
				want := whatWords[what] + " " + impl.EncodeBase(seen.Bytes).Text
				if seen.Code != impl.OK {
					want = fmt.Sprint(whatWords[what], " ! ", seen.Code)
				}
				askText(t, fmt.Sprintf("%d %v of %q", what, path, data), impl.FetchText([]byte(data), fetchCmd(what, path...)), impl.OK, want)
			}
		}
	}
}

func TestWhatCannotBeFetched(t *testing.T) {
	short, long := []byte("\nHi"), someBytes(401)
	for _, c := range someCmds() {
		want := int64(impl.ErrForm)
		if c.Kind == impl.CmdFetch {
			want = impl.OK
		}
		askCode(t, fmt.Sprint(c), impl.FetchText(short, c).Code, want)
		askFetch(t, string(short), c)
		askFetch(t, string(long), c)
	}
	for _, c := range faultyCmds() {
		for _, data := range [][]byte{nil, short, long} {
			got := impl.FetchText(data, c)
			askText(t, fmt.Sprintf("%.200v", c), got, wantCmdFault(c), "")
		}
	}
	askText(t, "flags", impl.FetchText(short, fetchCmd(impl.WhatFlags)), impl.ErrForm, "")
	askText(t, "flags of 401 bytes", impl.FetchText(long, fetchCmd(impl.WhatFlags)), impl.ErrForm, "")
	askText(t, "flags with a Path", impl.FetchText(short, fetchCmd(impl.WhatFlags, 1)), impl.ErrForm, "")
	askText(t, "no What", impl.FetchText(short, fetchCmd(0)), impl.ErrRange, "")
	askText(t, "What 8", impl.FetchText(long, fetchCmd(8)), impl.ErrRange, "")
	askText(t, "nothing", impl.FetchText(nil, impl.Cmd{}), impl.ErrText, "")
	askText(t, "no command, of 401 bytes", impl.FetchText(long, impl.Cmd{Tag: "a", Kind: 15}), impl.ErrForm, "")
	for what := int64(impl.WhatSize); what <= impl.WhatSubject; what++ {
		for _, size := range []int{399, 400} {
			askCode(t, fmt.Sprint(what, " of bytes ", size), impl.FetchText(someBytes(size), fetchCmd(what)).Code, impl.OK)
		}
		for _, size := range []int{401, 402, 1 << 16} {
			askText(t, fmt.Sprint(what, " of bytes ", size), impl.FetchText(someBytes(size), fetchCmd(what)), impl.ErrMany, "")
		}
	}
}
