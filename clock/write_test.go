package clock_test

import (
	"fmt"
	"math"
	"testing"
	"time"

	"almanac/api"
	"almanac/clock"
)

func TestText(t *testing.T) {
	for _, k := range []struct {
		time api.Local
		want string
	}{
		{0, "1970-01-01T00:00:00"},
		{local(2024, 7, 8, 12, 30, 0), "2024-07-08T12:30:00"},
		{local(999, 12, 31, 23, 59, 59), "0999-12-31T23:59:59"},
		{local(0, 1, 1, 0, 0, 0), "0000-01-01T00:00:00"},
		{local(0, 1, 1, 0, 0, 0) - 1, "-00001-12-31T23:59:59"},
		{local(-44, 3, 16, 0, 0, 0), "-00044-03-16T00:00:00"},
		{local(9999, 12, 31, 23, 59, 59), "9999-12-31T23:59:59"},
		{local(10000, 1, 1, 1, 2, 3), "+10000-01-01T01:02:03"},
		{firstTime, "-08982-05-17T00:00:00"},
		{lastTime, "+12921-08-18T23:59:59"},
	} {
		got, err := clock.Text(k.time)
		wantValue(t, at("2.3: Text(%d)", k.time), got, err, k.want)
	}
	for _, x := range someTimes() {
		u := time.Unix(int64(x), 0).UTC()
		year := fmt.Sprintf("%04d", u.Year())
		if u.Year() < 0 || u.Year() > 9999 {
			year = fmt.Sprintf("%+06d", u.Year())
		}
		got, err := clock.Text(x)
		wantValue(t, at("2.3: Text(%d)", x), got, err, year+u.Format("-01-02T15:04:05"))
	}
	for _, x := range noTimes {
		got, err := clock.Text(x)
		wantError(t, at("2.3: Text(%d)", x), got, err, api.ErrRange)
	}
}

func TestOffsetText(t *testing.T) {
	for n, want := range map[int]string{
		0: "+00:00", 60: "+00:01", -60: "-00:01", -1800: "-00:30", 19800: "+05:30", 3600: "+01:00", -43200: "-12:00", 86340: "+23:59", -86340: "-23:59",
	} {
		got, err := clock.OffsetText(n)
		wantValue(t, at("2.3: OffsetText(%d)", n), got, err, want)
	}
	for _, n := range []int{math.MinInt, -86400, -86399, -61, -59, -1, 1, 59, 61, 86399, 86400, 90000, math.MaxInt} {
		got, err := clock.OffsetText(n)
		wantError(t, at("2.3: OffsetText(%d)", n), got, err, api.ErrRange)
	}
}

func TestStampText(t *testing.T) {
	noon := local(2024, 7, 8, 12, 30, 0)
	for _, k := range []struct {
		stamp api.Stamp
		want  string
	}{
		{api.Stamp{Local: noon}, "2024-07-08T12:30:00"},
		{api.Stamp{Local: noon, Zone: api.Zulu}, "2024-07-08T12:30:00Z"},
		{api.Stamp{Local: noon, Zone: api.Offset}, "2024-07-08T12:30:00+00:00"},
		{api.Stamp{Local: noon, Zone: api.Offset, Offset: -1800}, "2024-07-08T12:30:00-00:30"},
		{api.Stamp{Local: lastTime, Zone: api.Offset, Offset: -86340}, "+12921-08-18T23:59:59-23:59"},
	} {
		got, err := clock.StampText(k.stamp)
		wantValue(t, at("2.3: StampText(%v)", k.stamp), got, err, k.want)
	}
	for _, k := range []struct {
		stamp api.Stamp
		want  api.Errno
	}{
		{api.Stamp{Zone: -1}, api.ErrArg}, {api.Stamp{Zone: 3}, api.ErrArg}, {api.Stamp{Zone: math.MaxInt, Offset: 61}, api.ErrArg},
		{api.Stamp{Zone: api.NoZone, Offset: 60}, api.ErrArg}, {api.Stamp{Zone: api.Zulu, Offset: -60}, api.ErrArg}, {api.Stamp{Zone: api.Zulu, Offset: 86400}, api.ErrArg},
		{api.Stamp{Zone: api.Offset, Offset: 61}, api.ErrRange}, {api.Stamp{Zone: api.Offset, Offset: 86400}, api.ErrRange}, {api.Stamp{Zone: api.Offset, Offset: math.MinInt}, api.ErrRange},
		{api.Stamp{Local: lastTime + 1, Zone: 7}, api.ErrRange}, {api.Stamp{Local: firstTime - 1, Offset: 60}, api.ErrRange},
	} {
		got, err := clock.StampText(k.stamp)
		wantError(t, at("2.3: StampText(%v)", k.stamp), got, err, k.want)
	}
}
