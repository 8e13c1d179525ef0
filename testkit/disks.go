package testkit

import (
	"strconv"

	"beadle/disk"
)

// TellDisk is all that a disk has, and how many bytes of each file are synced: these are what a crash of a copy leaves.
func TellDisk(d *disk.Disk) string {
	crashed := d.Copy()
	crashed.Crash(0)
	text := ""
	for _, name := range d.List() {
		all, _ := d.Read(name)
		synced, _ := crashed.Read(name)
		text += name + ": " + strconv.Itoa(len(synced)) + " synced of " + strconv.Itoa(len(all)) + ": " + strconv.Quote(string(all)) + "\n"
	}
	return text
}
