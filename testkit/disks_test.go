package testkit_test

import (
	"testing"

	"beadle/disk"
	"beadle/testkit"
)

func TestTellDiskTellsAll(t *testing.T) {
	changes := map[string]func(d *disk.Disk){
		"a byte":           func(d *disk.Disk) { d.Cut("a", 2); d.Append("a", []byte("C")) },
		"one byte more":    func(d *disk.Disk) { d.Append("a", []byte("d")) },
		"a sync":           func(d *disk.Disk) { d.Sync("a") },
		"a name":           func(d *disk.Disk) { d.Rename("a", "c") },
		"a file":           func(d *disk.Disk) { d.Append("c", nil) },
		"a file less":      func(d *disk.Disk) { d.Remove("b") },
		"a crash":          func(d *disk.Disk) { d.Crash(0) },
		"a crash of less":  func(d *disk.Disk) { d.Crash(1) },
		"a crash of none":  func(d *disk.Disk) { d.Crash(9) },
		"what a cut syncs": func(d *disk.Disk) { d.Cut("a", 3) },
	}
	for what, change := range changes {
		d := disk.New(100)
		d.Append("a", []byte("a"))
		d.Sync("a")
		d.Append("a", []byte("bc"))
		d.Append("b", nil)
		before := testkit.TellDisk(d)
		if testkit.TellDisk(d) != before || testkit.TellDisk(d.Copy()) != before {
			t.Fatal("the same disk is told in two ways")
		}
		change(d)
		if testkit.TellDisk(d) == before {
			t.Errorf("%s is not told", what)
		}
	}
}
