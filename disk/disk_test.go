package disk

import (
	"maps"
	"reflect"
	"slices"
	"strconv"
	"strings"
	"sync"
	"testing"
	"unsafe"

	"crucible/api"
)

// same: are the disks the same, whether an empty list is nil or not?
func same(a, b api.Disk) bool {
	return a.Clock == b.Clock && slices.Equal(a.Files, b.Files)
}

func wantPut(t *testing.T, d api.Disk, name string, content int, want api.Disk, e api.Errno) {
	t.Helper()
	if got, f := Put(d, name, content); !same(got, want) || f != e {
		t.Errorf("P12.1: Put(%v, %q, %d): %v, %d; want %v, %d", d, name, content, got, f, want, e)
	}
}

func wantRemove(t *testing.T, d api.Disk, name string, want api.Disk, e api.Errno) {
	t.Helper()
	if got, f := Remove(d, name); !same(got, want) || f != e {
		t.Errorf("P12.1: Remove(%v, %q): %v, %d; want %v, %d", d, name, got, f, want, e)
	}
}

func wantFind(t *testing.T, d api.Disk, name string, want api.File, is bool) {
	t.Helper()
	if got, there := Find(d, name); got != want || there != is {
		t.Errorf("P12.1: Find(%v, %q): %v, %v; want %v, %v", d, name, got, there, want, is)
	}
}

// wantForm holds all four calls against a disk that may not be.
func wantForm(t *testing.T, d api.Disk) {
	t.Helper()
	if May(d) {
		t.Errorf("P12.1: May(%v)", d)
	}
	for _, name := range []string{"a", "new", ""} {
		wantPut(t, d, name, 0, api.Disk{}, api.ErrDiskForm)
		wantRemove(t, d, name, api.Disk{}, api.ErrDiskForm)
		wantFind(t, d, name, api.File{}, false)
	}
	for _, f := range d.Files[:min(len(d.Files), 2)] {
		wantRemove(t, d, f.Name, api.Disk{}, api.ErrDiskForm)
		wantFind(t, d, f.Name, api.File{}, false)
	}
}

// few is a disk of three files, with room between them in names and times.
func few() api.Disk {
	return api.Disk{Clock: 9, Files: []api.File{{Name: "b", Content: 7, Time: 8}, {Name: "d/e", Content: 0, Time: 1}, {Name: "f", Content: api.MaxContent, Time: 4}}}
}

// crowd is a disk of so many files, the later named the older.
func crowd(n int) api.Disk {
	d := api.Disk{Clock: n}
	for k := range n {
		d.Files = append(d.Files, api.File{Name: "f" + strconv.Itoa(100+k), Content: k, Time: n - k})
	}
	return d
}

func TestPut(t *testing.T) {
	b, de, f := few().Files[0], few().Files[1], few().Files[2]
	for name, at := range map[string]int{"a": 0, "aa": 0, "c": 1, "d": 1, "d.e": 1, "d/d": 1, "d/e/f": 2, "e": 2, "g": 3, "f.o": 3, "-": 0} {
		for _, content := range []int{0, 1, api.MaxContent} {
			files := slices.Insert(few().Files, at, api.File{Name: name, Content: content, Time: 10})
			wantPut(t, few(), name, content, api.Disk{Clock: 10, Files: files}, api.OK)
		}
	}
	wantPut(t, few(), "b", 5, api.Disk{Clock: 10, Files: []api.File{{Name: "b", Content: 5, Time: 10}, de, f}}, api.OK)
	wantPut(t, few(), "d/e", 0, api.Disk{Clock: 10, Files: []api.File{b, {Name: "d/e", Content: 0, Time: 10}, f}}, api.OK)
	wantPut(t, few(), "f", api.MaxContent, api.Disk{Clock: 10, Files: []api.File{b, de, {Name: "f", Content: api.MaxContent, Time: 10}}}, api.OK)
	wantPut(t, api.Disk{}, "a", 3, api.Disk{Clock: 1, Files: []api.File{{Name: "a", Content: 3, Time: 1}}}, api.OK)
	wantPut(t, api.Disk{Clock: 6, Files: []api.File{}}, "a", 3, api.Disk{Clock: 7, Files: []api.File{{Name: "a", Content: 3, Time: 7}}}, api.OK)
}

func TestRemove(t *testing.T) {
	b, de, f := few().Files[0], few().Files[1], few().Files[2]
	wantRemove(t, few(), "b", api.Disk{Clock: 9, Files: []api.File{de, f}}, api.OK)
	wantRemove(t, few(), "d/e", api.Disk{Clock: 9, Files: []api.File{b, f}}, api.OK)
	wantRemove(t, few(), "f", api.Disk{Clock: 9, Files: []api.File{b, de}}, api.OK)
	wantRemove(t, api.Disk{Clock: 1, Files: []api.File{{Name: "a", Time: 1}}}, "a", api.Disk{Clock: 1}, api.OK)
	for _, name := range []string{"a", "bb", "c", "d", "e", "d/e/f", "g"} {
		wantRemove(t, few(), name, api.Disk{}, api.ErrDiskNone)
		wantRemove(t, api.Disk{}, name, api.Disk{}, api.ErrDiskNone)
		wantRemove(t, api.Disk{Clock: api.MaxTime, Files: []api.File{}}, name, api.Disk{}, api.ErrDiskNone)
	}
}

func TestFind(t *testing.T) {
	for _, f := range few().Files {
		wantFind(t, few(), f.Name, f, true)
	}
	for _, name := range []string{"", "a", "bb", "c", "d", "e", "d/", "./b", "b/", "d/e/f", "g", "B", "\xff", strings.Repeat("b", 1<<20)} {
		wantFind(t, few(), name, api.File{}, false)
		wantFind(t, api.Disk{}, name, api.File{}, false)
	}
}

// What is told of a whole crowd, at each place.
func TestEachPlace(t *testing.T) {
	for n := range api.MaxFiles + 1 {
		d := crowd(n)
		if !May(d) {
			t.Fatalf("P12.1: not May(%v)", d)
		}
		for k, f := range d.Files {
			wantFind(t, d, f.Name, f, true)
			wantRemove(t, d, f.Name, api.Disk{Clock: n, Files: slices.Delete(slices.Clone(d.Files), k, k+1)}, api.OK)
			put := api.Disk{Clock: n + 1, Files: slices.Clone(d.Files)}
			put.Files[k] = api.File{Name: f.Name, Content: 5, Time: n + 1}
			wantPut(t, d, f.Name, 5, put, api.OK)
		}
		for k := range n + 1 {
			// Each new name stands right behind k files.
			name := "f" + strconv.Itoa(99+k) + "-"
			if k == 0 {
				name = "f"
			}
			wantFind(t, d, name, api.File{}, false)
			wantRemove(t, d, name, api.Disk{}, api.ErrDiskNone)
			if n < api.MaxFiles {
				put := slices.Insert(slices.Clone(d.Files), k, api.File{Name: name, Content: 5, Time: n + 1})
				wantPut(t, d, name, 5, api.Disk{Clock: n + 1, Files: put}, api.OK)
			} else {
				wantPut(t, d, name, 5, api.Disk{}, api.ErrDiskFull)
			}
		}
	}
}

// model is a disk as a map, and how it would be told.
type model struct {
	clock int
	files map[string]api.File
}

func (m model) disk() api.Disk {
	d := api.Disk{Clock: m.clock}
	for _, name := range slices.Sorted(maps.Keys(m.files)) {
		d.Files = append(d.Files, m.files[name])
	}
	return d
}

// All rows of five writes and removes of three names.
func TestRowsOfCalls(t *testing.T) {
	names := []string{"b", "a", "a/b"}
	for row := range 6 * 6 * 6 * 6 * 6 {
		d, m := api.Disk{}, model{files: map[string]api.File{}}
		for left := row; left > 0; left /= 6 {
			name := names[left%3]
			if left%6 < 3 {
				m.clock++
				m.files[name] = api.File{Name: name, Content: left, Time: m.clock}
				wantPut(t, d, name, left, m.disk(), api.OK)
				d, _ = Put(d, name, left)
			} else if _, is := m.files[name]; is {
				delete(m.files, name)
				wantRemove(t, d, name, m.disk(), api.OK)
				d, _ = Remove(d, name)
			} else {
				wantRemove(t, d, name, api.Disk{}, api.ErrDiskNone)
			}
		}
		if !May(d) {
			t.Fatalf("P12.1: not May(%v)", d)
		}
		for _, name := range names {
			f, is := m.files[name]
			wantFind(t, d, name, f, is)
		}
	}
}

func TestFull(t *testing.T) {
	full := crowd(api.MaxFiles)
	wantPut(t, full, "new", 0, api.Disk{}, api.ErrDiskFull)
	wantPut(t, full, "a", 0, api.Disk{}, api.ErrDiskFull)
	late := few()
	late.Clock = api.MaxTime
	if !May(late) {
		t.Error("P12.1: a disk of the latest clock")
	}
	for _, name := range []string{"a", "b", "d/e", "f", "g"} {
		wantPut(t, late, name, 0, api.Disk{}, api.ErrDiskFull)
	}
	wantPut(t, api.Disk{Clock: api.MaxTime}, "a", 0, api.Disk{}, api.ErrDiskFull)
	full.Clock = api.MaxTime
	wantPut(t, full, "f100", 0, api.Disk{}, api.ErrDiskFull)
	wantRemove(t, late, "b", api.Disk{Clock: api.MaxTime, Files: late.Files[1:]}, api.OK)
	wantFind(t, late, "b", late.Files[0], true)
	last := api.Disk{Clock: api.MaxTime, Files: []api.File{{Name: "a", Content: 1, Time: api.MaxTime}}}
	wantPut(t, api.Disk{Clock: api.MaxTime - 1}, "a", 1, last, api.OK)
	wantFind(t, last, "a", last.Files[0], true)
}

// What is of the wrong form is told ahead of a disk that is full, and of a file that is not there.
func TestFormFirst(t *testing.T) {
	late := api.Disk{Clock: api.MaxTime}
	for _, d := range []api.Disk{late, crowd(api.MaxFiles), {}} {
		for _, name := range []string{"", "/a", "a/", "a//b", "./a", "a/..", "a/../b", "..", ".", "A", "a b", "a\n", "\xff", strings.Repeat("a", api.MaxName+1), strings.Repeat("a", 1<<20)} {
			wantPut(t, d, name, 0, api.Disk{}, api.ErrDiskForm)
			wantRemove(t, d, name, api.Disk{}, api.ErrDiskForm)
			wantFind(t, d, name, api.File{}, false)
		}
		for _, content := range []int{-1, api.MaxContent + 1, -1 << 63, 1<<63 - 1, 1 << 32, 1<<32 + 1} {
			wantPut(t, d, "a", content, api.Disk{}, api.ErrDiskForm)
			wantPut(t, d, "f100", content, api.Disk{}, api.ErrDiskForm)
		}
	}
}

func TestWrongClocks(t *testing.T) {
	for _, clock := range []int{-1, -1 << 63, api.MaxTime + 1, 1<<63 - 1, 1 << 32, 1<<32 + 9} {
		wantForm(t, api.Disk{Clock: clock})
		d := few()
		d.Clock = clock
		wantForm(t, d)
	}
	for clock := range 20 {
		d := few()
		d.Clock = clock
		if clock < 8 {
			wantForm(t, d)
		} else if !May(d) {
			t.Errorf("P12.1: not May(%v)", d)
		}
	}
	if !May(api.Disk{}) || !May(api.Disk{Files: []api.File{}}) {
		t.Error("P12.1: an empty disk")
	}
	wantForm(t, api.Disk{Files: []api.File{{Name: "a"}}})
	wantForm(t, api.Disk{Files: []api.File{{Name: "a", Time: 1}}})
}

// Each field of a file is wrong at each place.
func TestWrongFiles(t *testing.T) {
	for k := range api.MaxFiles {
		for _, name := range []string{"", "/f", "f/", "f//b", "./f", "f/..", "F", "f b", "f\n", "\xff", strings.Repeat("f", api.MaxName+1)} {
			d := crowd(api.MaxFiles)
			d.Files[k].Name = name
			wantForm(t, d)
			// Alone, no other name can stand in the wrong row.
			d.Files = d.Files[k : k+1]
			wantForm(t, d)
		}
		for _, content := range []int{-1, api.MaxContent + 1, -1 << 63, 1<<63 - 1, 1 << 32} {
			d := crowd(api.MaxFiles)
			d.Files[k].Content = content
			wantForm(t, d)
		}
		for _, time := range []int{0, -1, api.MaxFiles + 1, -1 << 63, 1<<63 - 1, 1<<32 + 1} {
			d := crowd(api.MaxFiles)
			d.Files[k].Time = time
			wantForm(t, d)
		}
	}
}

// Each two files are the same in name, the same in time, or stand in each other's place.
func TestTwoOfAKind(t *testing.T) {
	for k := range api.MaxFiles {
		for i := range k {
			d := crowd(api.MaxFiles)
			d.Files[k].Time = d.Files[i].Time
			wantForm(t, d)
			d = crowd(api.MaxFiles)
			d.Files[k].Name = d.Files[i].Name
			wantForm(t, d)
			d = crowd(api.MaxFiles)
			d.Files[k], d.Files[i] = d.Files[i], d.Files[k]
			wantForm(t, d)
			d = crowd(api.MaxFiles)
			d.Files[k].Time, d.Files[i].Time = d.Files[i].Time, d.Files[k].Time
			d.Files[k].Content = d.Files[i].Content
			if !May(d) {
				t.Fatalf("P12.1: not May(%v)", d)
			}
		}
	}
}

// Names rise byte by byte, not piece by piece.
func TestRows(t *testing.T) {
	row := []string{"-", "-a", ".a", "0", "10", "9", "_", "a", "a-", "a-b", "a.b", "a/b", "a0", "a_", "aa", "ab/c", "b"}
	for k, name := range row {
		for i, other := range row {
			d := api.Disk{Clock: 2, Files: []api.File{{Name: name, Time: 1}, {Name: other, Time: 2}}}
			if k >= i {
				wantForm(t, d)
			} else if !May(d) {
				t.Errorf("P12.1: not May(%v)", d)
			}
		}
	}
}

func TestTooMany(t *testing.T) {
	for n := range 3 * api.MaxFiles {
		if n > api.MaxFiles {
			wantForm(t, crowd(n))
		} else if !May(crowd(n)) {
			t.Errorf("P12.1: %d files", n)
		}
	}
	wantForm(t, crowd(1<<16))
	wantForm(t, api.Disk{Clock: api.MaxTime, Files: make([]api.File, 1<<20)})
}

// spare is a disk with spare room, and something in it.
func spare() api.Disk {
	d := few()
	d.Files = append(d.Files, api.File{Name: "spare"}, api.File{Name: "spare"})[:len(d.Files)]
	return d
}

// grown is the disk with its spare room.
func grown(d api.Disk) api.Disk {
	return api.Disk{Clock: d.Clock, Files: d.Files[:cap(d.Files)]}
}

// calls are one call of each kind and way on the disk, each with what it answers.
func calls(d api.Disk) []api.Disk {
	var told []api.Disk
	for _, name := range []string{"a", "b", "c", "d/e", "f", "g", ""} {
		put, _ := Put(d, name, 1)
		left, _ := Remove(d, name)
		f, _ := Find(d, name)
		told = append(told, put, left, api.Disk{Files: []api.File{f}})
	}
	return told
}

func TestArgumentStays(t *testing.T) {
	d := spare()
	first := calls(d)
	if !reflect.DeepEqual(grown(d), grown(spare())) {
		t.Error("R4: what was handed in was changed")
	}
	second := calls(d)
	if !reflect.DeepEqual(first, second) {
		t.Error("R5: the same calls answer otherwise")
	}
	// One answer is written over, its spare room too: neither the argument nor another answer is.
	for _, told := range first {
		for k := range told.Files[:cap(told.Files)] {
			told.Files[:cap(told.Files)][k] = api.File{Name: "over", Content: -1, Time: -1}
		}
	}
	if !reflect.DeepEqual(grown(d), grown(spare())) || !reflect.DeepEqual(second, calls(spare())) {
		t.Error("R4: an answer shares memory")
	}
}

// within: does the part lie in the memory of all?
func within(all, part string) bool {
	first, at := uintptr(unsafe.Pointer(unsafe.StringData(all))), uintptr(unsafe.Pointer(unsafe.StringData(part)))
	return first <= at && at < first+uintptr(len(all))
}

func TestAnswersAreNewMemory(t *testing.T) {
	all := strings.Clone("abcd")
	d := api.Disk{Clock: 2, Files: []api.File{{Name: all[:1], Time: 1}, {Name: all[1:2], Time: 2}}}
	var names []string
	for _, name := range []string{all[:1], all[1:2], all[2:3], all[:2]} {
		put, _ := Put(d, name, 1)
		left, _ := Remove(d, name)
		f, _ := Find(d, name)
		for _, f := range slices.Concat(put.Files, left.Files, []api.File{f}) {
			if f.Name != "" {
				names = append(names, f.Name)
			}
		}
	}
	for k, name := range names {
		if within(all, name) {
			t.Errorf("R4: the name %q is a part of an argument", name)
		}
		for _, other := range names[:k] {
			if within(other, name) {
				t.Errorf("R4: two answers share the name %q", name)
			}
		}
	}
	if len(names) != 2+1+1+2+1+1+3+3 {
		t.Errorf("P12.1: %q", names)
	}
}

func TestFromSeveralGoroutines(t *testing.T) {
	d, told := spare(), calls(few())
	var all sync.WaitGroup
	for range 8 {
		all.Go(func() {
			for range 50 {
				if !reflect.DeepEqual(calls(d), told) {
					t.Error("R5: the same calls answer otherwise")
				}
			}
		})
	}
	all.Wait()
}
