package checks

import (
	"fmt"
	"math/rand"
	"testing"
	"time"

	"lintel/api"
	"lintel/stamp"
)

func TestStampRight(t *testing.T) {
	days := map[int]uint8{1: 31, 2: 28, 3: 31, 4: 30, 5: 31, 6: 30, 7: 31, 8: 31, 9: 30, 10: 31, 11: 30, 12: 31}
	for m, d := range days {
		for x, want := range map[uint8]bool{0: false, 1: true, d: true, d + 1: false, 255: false} {
			if stamp.Right(api.Time{Year: 2023, Month: uint8(m), Day: x}) != want {
				t.Errorf("P11.1: the day %d of the month %d: %v", x, m, !want)
			}
		}
	}
	for y, want := range map[uint16]bool{1900: false, 1904: true, 2000: true, 2024: true, 2023: false, 2100: false, 2400: true, 9996: true, 1896: false} {
		if stamp.Right(api.Time{Year: y, Month: 2, Day: 29}) != want {
			t.Errorf("P11.1: 29 days of the month 2 of %d: %v", y, !want)
		}
	}
	for x, want := range map[api.Time]bool{
		{}: false, {Year: 1900, Month: 1, Day: 1}: true, {Year: 1899, Month: 12, Day: 31}: false, {Year: 9999, Month: 12, Day: 31}: true, {Year: 10000, Month: 1, Day: 1}: false, {Year: 65535, Month: 1, Day: 1}: false,
		{Year: 2000, Month: 0, Day: 1}: false, {Year: 2000, Month: 13, Day: 1}: false, {Year: 2000, Month: 255, Day: 1}: false,
		{Year: 2000, Month: 1, Day: 1, Hour: 23, Minute: 59, Second: 59}: true, {Year: 2000, Month: 1, Day: 1, Hour: 24}: false, {Year: 2000, Month: 1, Day: 1, Minute: 60}: false, {Year: 2000, Month: 1, Day: 1, Second: 60}: false,
	} {
		if stamp.Right(x) != want {
			t.Errorf("P11.1: %v: %v", x, !want)
		}
	}
}

func TestStampTexts(t *testing.T) {
	for s, want := range map[string]api.Time{
		"500102030405Z": {Year: 1950, Month: 1, Day: 2, Hour: 3, Minute: 4, Second: 5},
		"491231235959Z": {Year: 2049, Month: 12, Day: 31, Hour: 23, Minute: 59, Second: 59},
		"000229000000Z": {Year: 2000, Month: 2, Day: 29},
		"990630000000Z": {Year: 1999, Month: 6, Day: 30},
	} {
		if got, ok := stamp.Utc([]byte(s)); got != want || !ok {
			t.Errorf("P11.2: Utc of %s: %v, %v", s, got, ok)
		}
		if got, ok := stamp.General([]byte(s)); got != (api.Time{}) || ok {
			t.Errorf("P11.2: General of %s: %v, %v", s, got, ok)
		}
	}
	for s, want := range map[string]api.Time{
		"20000229000000Z": {Year: 2000, Month: 2, Day: 29}, "19000101000000Z": {Year: 1900, Month: 1, Day: 1}, "99991231235959Z": {Year: 9999, Month: 12, Day: 31, Hour: 23, Minute: 59, Second: 59},
	} {
		if got, ok := stamp.General([]byte(s)); got != want || !ok {
			t.Errorf("P11.2: General of %s: %v, %v", s, got, ok)
		}
		if got, ok := stamp.Utc([]byte(s)); got != (api.Time{}) || ok {
			t.Errorf("P11.2: Utc of %s: %v, %v", s, got, ok)
		}
	}
	for _, s := range []string{"", "Z", "010229000000Z", "0001020304Z", "500102030405", "5001020304050", "500102030405z", "500102030405ZZ", "50010203040:Z", "/00102030405Z", "5001020304-5Z", "501302030405Z", "500132030405Z", "500102240405Z", "500102036005Z", "500102030460Z", "500100030405Z", "500002030405Z", "50 102030405Z"} {
		if got, ok := stamp.Utc([]byte(s)); got != (api.Time{}) || ok {
			t.Errorf("P11.2: Utc of %q: %v, %v", s, got, ok)
		}
		if got, ok := stamp.General([]byte("20" + s)); s != "500102030405" && (got != (api.Time{}) || ok) {
			t.Errorf("P11.2: General of 20%q: %v, %v", s, got, ok)
		}
	}
	for _, s := range []string{"19000229000000Z", "18991231235959Z", "00000101000000Z", "2a000101000000Z", "200a0101000000Z", "20000101000000+", "20000101000000.0Z"} {
		if got, ok := stamp.General([]byte(s)); got != (api.Time{}) || ok {
			t.Errorf("P11.2: General of %q: %v, %v", s, got, ok)
		}
	}
}

func TestStampBytes(t *testing.T) {
	x := api.Time{Year: 2024, Month: 2, Day: 29, Hour: 1, Minute: 2, Second: 3}
	b := unhex("e807021d010203 000000000000000000")
	equal(t, "P11.4: Write", stamp.Write(x), b)
	equal(t, "P11.4: Write of no moment", stamp.Write(api.Time{Year: 65535, Month: 255, Day: 254, Hour: 253, Minute: 252, Second: 251}), unhex("fffffffefdfcfb 000000000000000000"))
	if got, e := stamp.Read(b); got != x || e != 0 {
		t.Errorf("P11.4: Read: %v, %d", got, e)
	}
	if got, e := stamp.Read(make([]byte, 16)); got != (api.Time{}) || e != 0 {
		t.Errorf("P11.4: Read of 16 bytes 0: %v, %d", got, e)
	}
	wrong := [][]byte{nil, b[:15], append(b, 0), make([]byte, 15), make([]byte, 17), stamp.Write(api.Time{Year: 2023, Month: 2, Day: 29}), stamp.Write(api.Time{Second: 1}), stamp.Write(api.Time{Year: 1899, Month: 1, Day: 1})}
	for i := 7; i < 16; i++ {
		some := stamp.Write(x)
		some[i] = 1
		zero := make([]byte, 16)
		zero[i] = 1
		wrong = append(wrong, some, zero)
	}
	for _, w := range wrong {
		if got, e := stamp.Read(w); got != (api.Time{}) || e != api.ErrForm {
			t.Errorf("P11.4: Read of %x: %v, %d", w, got, e)
		}
	}
}

func someTime(r *rand.Rand) api.Time {
	return api.Time{Year: uint16(1900 + r.Intn(8100)), Month: uint8(1 + r.Intn(12)), Day: uint8(1 + r.Intn(31)), Hour: uint8(r.Intn(24)), Minute: uint8(r.Intn(60)), Second: uint8(r.Intn(60))}
}

func clock(x api.Time) time.Time {
	return time.Date(int(x.Year), time.Month(x.Month), int(x.Day), int(x.Hour), int(x.Minute), int(x.Second), 0, time.UTC)
}

func TestStampFollows(t *testing.T) {
	r := random(17)
	for range 20000 {
		x := someTime(r)
		there := clock(x).Day() == int(x.Day)
		if stamp.Right(x) != there {
			t.Fatalf("P11.1: %v: %v", x, !there)
		}
		text := fmt.Sprintf("%04d%02d%02d%02d%02d%02dZ", x.Year, x.Month, x.Day, x.Hour, x.Minute, x.Second)
		got, ok := stamp.General([]byte(text))
		if ok != there || ok && got != x {
			t.Fatalf("P11.2: General of %s: %v, %v", text, got, ok)
		}
		got, e := stamp.Read(stamp.Write(x))
		if (e == 0) != there || there && got != x {
			t.Fatalf("what follows: Read of Write of %v: %v, %d", x, got, e)
		}
		if !there {
			continue
		}
		y := x
		switch r.Intn(7) {
		case 0:
			y = someTime(r)
		case 1:
			y.Year++
		case 2:
			y.Month, y.Day = 1+y.Month%12, 1
		case 3:
			y.Day = 1 + y.Day%28
		case 4:
			y.Hour = (y.Hour + 1) % 24
		case 5:
			y.Minute = (y.Minute + 1) % 60
		case 6:
			y.Second = (y.Second + 1) % 60
		}
		if !stamp.Right(y) {
			continue
		}
		if stamp.Less(x, y) != clock(x).Before(clock(y)) || stamp.Less(y, x) != clock(y).Before(clock(x)) || stamp.Less(x, x) {
			t.Fatalf("P11.3: Less of %v and %v: %v", x, y, stamp.Less(x, y))
		}
	}
	if !stamp.Less(api.Time{}, api.Time{Second: 1}) || stamp.Less(api.Time{Year: 1, Month: 0}, api.Time{Year: 0, Month: 255}) || !stamp.Less(api.Time{Year: 1}, api.Time{Year: 65535}) {
		t.Errorf("P11.3: Less of what are no moments")
	}
}
